package block_test

import (
	"math"
	"slices"
	"strconv"
	"strings"
	"testing"

	"calque/api"
	"calque/block"
	"calque/ins"
	"calque/mem"
)

const (
	full  = math.MaxUint32
	last  = 1<<32 - api.PageSize // the last page that there may be
	code  = 0x1000               // where most blocks begin
	every = api.Read | api.Write | api.Exec
)

// What jumps and what asks, by the names of chapter 8; all others go on.
const (
	jumpers = "jr jalr beq bne blez bgtz bltz bgez bltzal bgezal j jal"
	askers  = "syscall break"
)

// in says whether a name is one of those in a text.
func in(name, text string) bool { return strings.Contains(" "+text+" ", " "+name+" ") }

// names are the names of all instructions, but of those in a text.
func names(but string) []string {
	var l []string
	for op := 1; ins.Name(op) != ""; op++ {
		if !in(ins.Name(op), but) {
			l = append(l, ins.Name(op))
		}
	}
	return l
}

// opOf is the Op of a name.
func opOf(name string) int {
	for op := 1; ins.Name(op) != ""; op++ {
		if ins.Name(op) == name {
			return op
		}
	}
	panic("no instruction " + name)
}

// wordOf is the word of an instruction of a name, its number k so that words of one name may be told apart; of "none" it is one that no instruction has.
func wordOf(name string, k uint32) uint32 {
	if name == "none" {
		return 0xfc000000 | k
	}
	op := opOf(name)
	for _, i := range []api.Ins{{Op: op, Imm: k * 4}, {Op: op, Imm: k}, {Op: op, S: int(k % 32)}, {Op: op, D: int(k % 32)}, {Op: op, T: int(k % 32), D: int(k % 32)}} {
		if w, err := ins.Encode(i); err == api.OK {
			return w
		}
	}
	panic("no word of " + name)
}

// wordsOf are the words of instructions, by their names; what is told as "16*addu" is there so often.
func wordsOf(text string) []uint32 {
	var l []uint32
	for _, part := range strings.Fields(text) {
		times, name, many := strings.Cut(part, "*")
		n := 1
		if many {
			n, _ = strconv.Atoi(times)
		} else {
			name = part
		}
		for range n {
			l = append(l, wordOf(name, uint32(len(l)+1)))
		}
	}
	return l
}

// mapped is a memory with a page of a perm at each of some places.
func mapped(t *testing.T, perm int, places ...uint32) *mem.Mem {
	t.Helper()
	m := mem.New(api.MaxPages)
	for _, at := range places {
		if err := m.Map(at, perm); err != api.OK {
			t.Fatalf("Map(%#x): error %d", at, err)
		}
	}
	return m
}

// lay puts words from a place on, where pages are.
func lay(t *testing.T, m *mem.Mem, at uint32, l []uint32) {
	t.Helper()
	for n, w := range l {
		for k := range 4 {
			if place := at + uint32(4*n+k); !m.Poke(place, byte(w>>(24-8*k))) {
				t.Fatalf("Poke(%#x) is false", place)
			}
		}
	}
}

// laid is a memory with two pages of words, from a place in the first one on; what is behind the words is 0, which goes on.
func laid(t *testing.T, at uint32, l []uint32) *mem.Mem {
	t.Helper()
	m := mapped(t, every, at, at+api.PageSize)
	lay(t, m, at, l)
	return m
}

// spread answers numbers that are spread out, always the same ones.
func spread() func() uint32 {
	v := uint32(2463534242)
	return func() uint32 {
		v ^= v << 13
		v ^= v >> 17
		v ^= v << 5
		return v
	}
}

// outside are numbers of which there is no Op; some are one but for bits far up.
func outside() []int {
	l := []int{0, -1, -2, -27, -35, 70, 71, 127, 128, 256, 256 + 1, 1<<16 + 40, 1 << 31, 1 << 32, 1<<32 + 1, 1<<32 + 51, -1 << 32, 1 - 1<<32, math.MaxInt, math.MinInt, math.MinInt + 1}
	for op := 70; op < 200; op++ {
		l = append(l, op, -op)
	}
	return l
}

// Sorts of words, by their names.
const (
	plainWord = iota
	jumpWord
	otherWord
)

// sortOf is the sort of a word.
func sortOf(w uint32) int {
	name := ins.Name(ins.Decode(w).Op)
	switch {
	case name == "" || in(name, askers):
		return otherWord
	case in(name, jumpers):
		return jumpWord
	}
	return plainWord
}

// there says whether an instruction may be fetched at a place, a number of more than 32 bits, so that the places' end is to be seen.
func there(m *mem.Mem, at uint64) bool {
	return at%4 == 0 && at < 1<<32 && m.Mapped(uint32(at)) && m.Perm(uint32(at))%2 == 1
}

// plainCut is P14.1 read once more: how many words it takes is found first.
func plainCut(m *mem.Mem, pc uint32) []uint32 {
	sortAt := func(n int) int {
		at := uint64(pc) + uint64(4*n)
		if n >= api.MaxBlock || !there(m, at) {
			return otherWord
		}
		return sortOf(m.Word(uint32(at)))
	}
	n := 0
	for sortAt(n) == plainWord {
		n++
	}
	if sortAt(n) == jumpWord && sortAt(n+1) == plainWord {
		n += 2
	}
	var l []uint32
	for k := range n {
		l = append(l, m.Word(pc+uint32(4*k)))
	}
	return l
}

// plainRight is P14.2 read once more: each word's sort as a letter, and what such a text may be.
func plainRight(l []uint32) (right, jumps bool) {
	var b strings.Builder
	for _, w := range l {
		b.WriteByte("pjo"[sortOf(w)])
	}
	text := b.String()
	head, leaps := strings.CutSuffix(text, "jp")
	if len(text) < 1 || len(text) > 16 || strings.Trim(head, "p") != "" {
		return false, false
	}
	return true, leaps
}

// holds checks that Cut says those words of a place, and that Right and Jumps say of them what they should.
func holds(t *testing.T, what string, m *mem.Mem, at uint32, want []uint32) {
	t.Helper()
	got := block.Cut(m, at)
	if !slices.Equal(got, want) {
		t.Errorf("%s: Cut at %#x is %#x, want %#x", what, at, got, want)
	}
	if block.Right(got) != (len(want) > 0) {
		t.Errorf("%s: Right of %#x is %v", what, got, len(want) == 0)
	}
	jumps := slices.ContainsFunc(want, func(w uint32) bool { return sortOf(w) == jumpWord })
	if block.Jumps(got) != jumps {
		t.Errorf("%s: Jumps of %#x is %v", what, got, !jumps)
	}
}

func TestExample(t *testing.T) {
	l := wordsOf("addu j addu addu")
	holds(t, "the chapter's example", laid(t, code, l), code, l[:3])
}

func TestP141Plain(t *testing.T) {
	for op := 1; op <= 69; op++ {
		want := !in(ins.Name(op), jumpers) && !in(ins.Name(op), askers)
		if block.Plain(op) != want {
			t.Errorf("Plain(%d), %s: %v", op, ins.Name(op), !want)
		}
	}
	for _, op := range outside() {
		if block.Plain(op) {
			t.Errorf("Plain(%d) is true: there is no such Op", op)
		}
	}
	for _, name := range []string{"addu", "lui", "lb", "lwr", "sb", "swr", "add", "addi", "tge", "tne", "div", "clo"} {
		if !block.Plain(opOf(name)) {
			t.Errorf("Plain of %s is false", name)
		}
	}
}

func TestP141Each(t *testing.T) {
	for _, name := range names(jumpers + " " + askers) {
		holds(t, name, laid(t, code, wordsOf(name+" none")), code, wordsOf(name))
		holds(t, name+" in a slot", laid(t, code, wordsOf("addu bne "+name+" addu")), code, wordsOf("addu bne "+name))
	}
	for _, name := range names("") {
		if !in(name, jumpers) {
			continue
		}
		holds(t, name, laid(t, code, wordsOf(name+" addu addu")), code, wordsOf(name+" addu"))
		holds(t, name+" behind another one", laid(t, code, wordsOf("addu "+name+" addu addu")), code, wordsOf("addu "+name+" addu"))
		holds(t, name+" in a slot", laid(t, code, wordsOf("addu j "+name+" addu")), code, wordsOf("addu"))
		holds(t, name+" ahead of a syscall", laid(t, code, wordsOf("addu "+name+" syscall addu")), code, wordsOf("addu"))
	}
}

func TestP141Ends(t *testing.T) {
	for text, n := range map[string]int{
		"addu none addu":           1,
		"addu syscall addu":        1,
		"addu break addu":          1,
		"none addu":                0,
		"syscall addu":             0,
		"break addu":               0,
		"addu j none addu":         1,
		"addu j syscall addu":      1,
		"addu j break addu":        1,
		"addu j j addu":            1,
		"addu j jr addu":           1,
		"addu jal beq addu":        1,
		"j none":                   0,
		"jr syscall":               0,
		"beq break":                0,
		"jalr jalr addu":           0,
		"bne addu j addu":          2,
		"lw sw add j tne":          5,
		"j lw":                     2,
		"j sw addu":                2,
		"addu teq jr div addu":     4,
		"3*addu bltz addu syscall": 5,
		"20*addu":                  16,
		"16*addu":                  16,
		"15*addu none":             15,
		"15*addu syscall addu":     15,
		"16*addu none":             16,
		"16*addu j addu":           16,
		"15*addu j addu addu":      15,
		"15*addu j none":           15,
		"14*addu j addu addu":      16,
		"14*addu j none addu":      14,
		"14*addu j j addu":         14,
		"13*addu j addu addu":      15,
	} {
		l := wordsOf(text)
		holds(t, text, laid(t, code, l), code, append(l, 0, 0)[:n])
	}
	// What ends one may begin none, or another one.
	l := wordsOf("addu j j addu syscall addu")
	m := laid(t, code, l)
	lay(t, m, code+24, wordsOf("none"))
	for n, k := range []int{1, 0, 2, 1, 0, 1, 0} {
		holds(t, "from within, on", m, code+uint32(4*n), l[min(n, len(l)):][:k])
	}
}

func TestP141WhereNone(t *testing.T) {
	m := laid(t, code, wordsOf("60*addu"))
	for _, at := range []uint32{code + 1, code + 2, code + 3, code + 255, code + 257, full, last + 1, 0x7ffffffe} {
		holds(t, "no multiple of four", m, at, nil)
	}
	for _, at := range []uint32{0, code - 4, code - api.PageSize, code + 2*api.PageSize, 0x80000000 + code, last, full - 3} {
		holds(t, "no page", m, at, nil)
	}
	for perm := range 8 {
		m := mapped(t, perm, code)
		lay(t, m, code, wordsOf("addu j addu"))
		want := wordsOf("addu j addu")
		if perm&api.Exec == 0 {
			want = nil
		}
		holds(t, "perm "+strconv.Itoa(perm), m, code, want)
	}
	for most := range 3 {
		holds(t, "a memory without pages", mem.New(most), 0, nil)
	}
}

func TestP141Borders(t *testing.T) {
	for _, text := range []string{"16*addu", "addu j addu", "2*addu j addu addu", "addu j j addu", "14*addu j addu"} {
		l := wordsOf(text)
		for ahead := range uint32(18) {
			at := uint32(code + api.PageSize - 4*ahead)
			for perm := -1; perm < 8; perm++ {
				m := mapped(t, every, code)
				if perm >= 0 {
					if err := m.Map(code+api.PageSize, perm); err != api.OK {
						t.Fatal(err)
					}
				} else if 4*len(l) > int(4*ahead) {
					l = l[:ahead]
				}
				lay(t, m, at, l)
				holds(t, text+" over a border, perm "+strconv.Itoa(perm), m, at, plainCut(m, at))
				l = wordsOf(text)
			}
		}
	}
	// Told one by one: a page may be run, the one behind it may not, or is not there.
	for _, perm := range []int{0, api.Read, api.Write, api.Read | api.Write} {
		m := mapped(t, every, code)
		m.Map(code+api.PageSize, perm)
		l := wordsOf("addu beq addu")
		for n, want := range []int{0, 1, 1, 3} { // so many words stand ahead of the border
			at := uint32(code + api.PageSize - 4*n)
			lay(t, m, at, l)
			holds(t, "a border behind "+strconv.Itoa(n), m, at, l[:want])
		}
	}
	m := mapped(t, every, code)
	l := wordsOf("addu beq addu")
	for n, want := range []int{0, 1, 1, 3} {
		at := uint32(code + api.PageSize - 4*n)
		lay(t, m, at, l[:n])
		holds(t, "an end behind "+strconv.Itoa(n), m, at, l[:want])
	}
	m = mapped(t, api.Exec, code, code+api.PageSize)
	lay(t, m, code+api.PageSize-4, l)
	holds(t, "a border within", m, code+api.PageSize-4, l)
	lay(t, m, code+api.PageSize-8, l)
	holds(t, "a border ahead of the slot", m, code+api.PageSize-8, l)
}

func TestP141Last(t *testing.T) {
	for _, x := range []struct {
		text string
		n    int
	}{
		{"addu", 1},
		{"addu addu", 2},
		{"15*addu", 15},
		{"16*addu", 16},
		{"17*addu", 16},
		{"j addu", 2},
		{"j", 0},
		{"addu j", 1},
		{"14*addu j", 14},
		{"14*addu j addu", 16},
		{"15*addu j", 15},
		{"addu syscall", 1},
	} {
		l := wordsOf(x.text)
		m := mapped(t, every, last, 0) // what stands at place 0 is Plain: 0 is sll
		at := uint32(1<<32 - 4*len(l))
		lay(t, m, at, l)
		holds(t, x.text+" at the end of all places", m, at, l[:x.n])
	}
	m := mapped(t, every, last, 0, 0x7fffff00, 0x80000000)
	l := wordsOf("addu addu j addu")
	lay(t, m, 0, l)
	holds(t, "from place 0 on", m, 0, l)
	lay(t, m, 0x7ffffff8, l)
	holds(t, "over 2^31", m, 0x7ffffff8, l)
}

// Each word of a small memory is drawn; pages may be run or not.
func TestP141Drawn(t *testing.T) {
	next := spread()
	sorts := []string{"addu", "lw", "sw", "add", "tne", "lui", "addu", "sll", "j", "beq", "jr", "syscall", "none"}
	found := map[int]int{}
	for round := range 400 {
		m := mem.New(api.MaxPages)
		for _, at := range []uint32{last, code, code + api.PageSize, code + 2*api.PageSize, 0} {
			if next()%8 == 0 {
				continue
			}
			m.Map(at, int(next()%8)|min(api.Exec, round%4))
			for n := range uint32(api.PageSize / 4) {
				name := "addiu" // in some rounds most words, so that some blocks are long
				if k := int(next()>>8) % (len(sorts) + 10*(round%8)); k < len(sorts) {
					name = sorts[k]
				}
				lay(t, m, at+4*n, []uint32{wordOf(name, next()%32)})
			}
		}
		for range 100 {
			at := []uint32{last, code, code + api.PageSize, code + 2*api.PageSize}[next()%4] + next()%api.PageSize
			if next()%16 > 0 {
				at &^= 3
			}
			want := plainCut(m, at)
			holds(t, "drawn", m, at, want)
			found[len(want)]++
		}
		if t.Failed() {
			return
		}
	}
	for n := range api.MaxBlock + 1 {
		if found[n] == 0 {
			t.Errorf("no block of %d words was drawn", n)
		}
	}
}

func TestP142Right(t *testing.T) {
	for text, want := range map[string][2]bool{
		"":                   {false, false},
		"addu":               {true, false},
		"j":                  {false, false},
		"none":               {false, false},
		"syscall":            {false, false},
		"break":              {false, false},
		"j addu":             {true, true},
		"addu j":             {false, false},
		"j j":                {false, false},
		"j addu addu":        {false, false},
		"addu j addu":        {true, true},
		"addu jalr lw":       {true, true},
		"beq j addu":         {false, false},
		"j addu j addu":      {false, false},
		"addu addu":          {true, false},
		"addu none addu":     {false, false},
		"none j addu":        {false, false},
		"j none":             {false, false},
		"addu none":          {false, false},
		"none addu":          {false, false},
		"addu syscall":       {false, false},
		"syscall addu":       {false, false},
		"syscall j addu":     {false, false},
		"j syscall":          {false, false},
		"break addu":         {false, false},
		"j break":            {false, false},
		"15*addu":            {true, false},
		"16*addu":            {true, false},
		"17*addu":            {false, false},
		"13*addu j addu":     {true, true},
		"14*addu j addu":     {true, true},
		"15*addu j addu":     {false, false},
		"16*addu j addu":     {false, false},
		"j 15*addu":          {false, false},
		"15*addu j":          {false, false},
		"13*addu j addu lui": {false, false},
	} {
		l := wordsOf(text)
		if right := block.Right(l); right != want[0] {
			t.Errorf("Right of %q is %v", text, right)
		}
		if jumps := block.Jumps(l); jumps != want[1] {
			t.Errorf("Jumps of %q is %v", text, jumps)
		}
	}
}

// One word of each name, at each place of lists of each length.
func TestP142EachPlace(t *testing.T) {
	for _, name := range append(names(""), "none") {
		for n := range api.MaxBlock + 3 {
			for at := range n {
				l := wordsOf(strconv.Itoa(n) + "*addu")
				l[at] = wordOf(name, uint32(at))
				fits := n <= api.MaxBlock
				jumps := fits && in(name, jumpers) && at == n-2
				right := jumps || fits && name != "none" && !in(name, jumpers) && !in(name, askers)
				if block.Right(l) != right {
					t.Errorf("%s at %d of %d: Right is %v", name, at, n, !right)
				}
				if block.Jumps(l) != jumps {
					t.Errorf("%s at %d of %d: Jumps is %v", name, at, n, !jumps)
				}
			}
		}
	}
}

func TestP142Drawn(t *testing.T) {
	next := spread()
	sorts := []string{"addu", "lw", "j", "sw", "add", "beq", "syscall", "none"}
	for range 20000 {
		var l []uint32
		n := next() % (api.MaxBlock + 3)
		for range n {
			name := "ori"
			if next()%n == 0 {
				name = sorts[next()%uint32(len(sorts))]
			}
			l = append(l, wordOf(name, next()%32))
		}
		if n > 1 && next()%2 == 0 {
			l[n-2] = wordOf("bne", next()%32)
		}
		right, jumps := plainRight(l)
		if block.Right(l) != right || block.Jumps(l) != jumps {
			t.Fatalf("of %#x: Right is %v, Jumps %v, want %v, %v", l, block.Right(l), block.Jumps(l), right, jumps)
		}
	}
}

// What is Right is what Cut says, where it stands with nothing behind it.
func TestP143CutOfRight(t *testing.T) {
	next := spread()
	rights := 0
	for range 5000 {
		var l []uint32
		for range 1 + next()%(api.MaxBlock+2) {
			l = append(l, wordOf([]string{"addu", "lw", "sw", "add", "teq", "lui", "sllv", "addu"}[next()%8], next()%32))
		}
		if len(l) > 1 && next()%2 == 0 {
			l[len(l)-2] = wordOf("bgez", next()%32)
		}
		if next()%4 == 0 {
			l[next()%uint32(len(l))] = wordOf([]string{"j", "none", "syscall"}[next()%3], 1)
		}
		m := laid(t, code, l)
		lay(t, m, code+uint32(4*len(l)), wordsOf("none"))
		got := block.Cut(m, code)
		if block.Right(l) {
			rights++
		}
		if slices.Equal(got, l) != block.Right(l) {
			t.Fatalf("Right of %#x is %v, and Cut says %#x", l, block.Right(l), got)
		}
		if len(got) > 0 && !block.Right(got) {
			t.Fatalf("Cut says %#x, which is not Right", got)
		}
	}
	if rights < 1000 {
		t.Errorf("only %d were Right", rights)
	}
}

func TestR1NoPanic(t *testing.T) {
	next := spread()
	m := laid(t, code, wordsOf("20*addu"))
	m.Map(last, every)
	m.Map(0, every)
	for _, at := range []uint32{0, 1, 3, 4, code - 1, code, last, full - 3, full - 1, full, 1 << 31, 1<<31 - 1} {
		block.Cut(m, at)
		block.Cut(mem.New(-1), at)
	}
	for range 2000 {
		block.Cut(m, next())
		block.Plain(int(int32(next())))
		l := make([]uint32, next()%40)
		for k := range l {
			l[k] = next()
		}
		block.Right(l)
		block.Jumps(l)
	}
	for _, n := range []int{0, 1, 2, api.MaxBlock, api.MaxBlock + 1, 1000, 1 << 16} {
		for _, w := range []uint32{0, full, wordOf("j", 1), wordOf("syscall", 1)} {
			l := slices.Repeat([]uint32{w}, n)
			block.Right(l)
			block.Jumps(l)
		}
	}
	block.Right(nil)
	block.Jumps(nil)
}

func TestR2NoneIsEmpty(t *testing.T) {
	m := laid(t, code, wordsOf("syscall j j none"))
	for _, at := range []uint32{code, code + 4, code + 8, code + 12, code + 1, 0} {
		if l := block.Cut(m, at); len(l) != 0 {
			t.Errorf("Cut at %#x says %#x", at, l)
		}
	}
	if block.Right([]uint32{}) || block.Jumps([]uint32{}) || block.Right(nil) || block.Jumps(nil) {
		t.Error("an empty list is Right, or Jumps")
	}
}

// The memory is as it was: nothing is written, turned, or told as touched.
func TestR3Memory(t *testing.T) {
	m := laid(t, code, wordsOf("addu j addu syscall 40*lw"))
	m.Watch(code, true)
	m.Poke(code+api.PageSize, 9) // that page is not watched
	m.Poke(code+200, 7)
	was := m.Copy()
	for at := uint32(code - 8); at < code+2*api.PageSize+8; at++ {
		block.Cut(m, at)
	}
	if !m.Same(was) {
		t.Error("Cut turned the memory")
	}
	if !m.Watched(code) || m.Watched(code+api.PageSize) {
		t.Error("Cut turned what is watched")
	}
	if l := m.Touched(); !slices.Equal(l, []uint32{code + 200}) {
		t.Errorf("Touched is %#x behind Cut", l)
	}
}

// What is answered is new memory, spare room too.
func TestR3New(t *testing.T) {
	for _, text := range []string{"addu j addu", "16*addu", "addu syscall", "14*addu j addu"} {
		l := wordsOf(text)
		m := laid(t, code, l)
		want := plainCut(m, code)
		a, b := block.Cut(m, code), block.Cut(m, code)
		for k := range a[:cap(a)] {
			a[:cap(a)][k] = full
		}
		if !slices.Equal(b, want) {
			t.Errorf("%s: two answers share memory", text)
		}
		_ = append(b, 1, 2, 3)
		holds(t, text+", once more", m, code, want)
	}
}

// What is handed in is neither turned nor kept, its spare room too.
func TestR3HandedIn(t *testing.T) {
	for _, text := range []string{"addu j addu", "16*addu", "17*addu", "addu none", "j addu addu"} {
		whole := append(wordsOf(text), wordsOf("j addu none")...)
		l := whole[:len(whole)-3]
		was := slices.Clone(whole)
		right, jumps := block.Right(l), block.Jumps(l)
		if !slices.Equal(whole, was) {
			t.Errorf("%s: the list was turned", text)
		}
		for k := range whole {
			whole[k] = wordOf("none", 1)
		}
		if block.Right(l) || block.Jumps(l) {
			t.Errorf("%s: another list is Right, or Jumps, as the one before it", text)
		}
		copy(whole, was)
		if block.Right(l) != right || block.Jumps(l) != jumps {
			t.Errorf("%s: not the same, asked again", text)
		}
	}
}

// Two memories have nothing in common, and what was asked before plays no part.
func TestR4Apart(t *testing.T) {
	a, b := wordsOf("addu j addu"), wordsOf("lw sw lw sw none")
	ma, mb := laid(t, code, a), laid(t, code, b)
	holds(t, "one", ma, code, a)
	holds(t, "another one", mb, code, b[:4])
	holds(t, "one again", ma, code, a)
	lay(t, ma, code+4, wordsOf("syscall"))
	holds(t, "one, overwritten", ma, code, a[:1])
	holds(t, "another one, left alone", mb, code, b[:4])
	lay(t, ma, code+4, a[1:2])
	holds(t, "one, as it was", ma, code, a)
}
