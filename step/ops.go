package step

// Instructions that are asked for by themselves: their Op, by the names of chapter 8.
const (
	opAdd     = 9
	opSub     = 10
	opMovz    = 14
	opMovn    = 15
	opMfhi    = 23
	opMflo    = 24
	opJr      = 27
	opJalr    = 28
	opSyscall = 35
	opBreak   = 36
	opAddi    = 41
)

// Likewise those that read, those that write, and the others that jump.
const (
	opLb = iota + 48
	opLh
	opLwl
	opLw
	opLbu
	opLhu
	opLwr
	opSb
	opSh
	opSwl
	opSw
	opSwr
	opBeq
	opBne
	opBlez
	opBgtz
	opBltz
	opBgez
	opBltzal
	opBgezal
	opJ
	opJal
)
