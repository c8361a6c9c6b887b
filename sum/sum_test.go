package sum_test

import (
	"hash/crc32"
	"hash/fnv"
	"strings"
	"testing"

	"outrider/api"
	"outrider/sum"
)

// texts: none, short and long ones, and each byte.
func texts() []string {
	all := make([]byte, 256)
	l := []string{"", "\x00", "\x00\x00\x00\x00", "\xff\xff\xff\xff", "a", "abcd", "123456789", "\xff\xfe not UTF-8 \x80", strings.Repeat("outrider", 300)}
	for i := range all {
		all[i] = byte(i)
		l = append(l, string(all[i:i+1]))
	}
	return append(l, string(all))
}

// crc: the CRC-32C of a text.
func crc(s string) uint32 { return crc32.Checksum([]byte(s), crc32.MakeTable(crc32.Castagnoli)) }

func TestCRC(t *testing.T) { // P2.1
	for _, c := range []struct {
		s string
		n uint32
	}{
		{"", 0}, {"a", 0xc1d04330}, {"123456789", 0xe3069283},
		{strings.Repeat("\x00", 32), 0x8a9136aa}, {strings.Repeat("\xff", 32), 0x62a8ab43},
	} {
		if got := sum.CRC(c.s); got != c.n {
			t.Errorf("CRC(%q): %x, wanted %x", c.s, got, c.n)
		}
	}
	for _, s := range texts() {
		if got, wanted := sum.CRC(s), crc(s); got != wanted {
			t.Errorf("CRC(%q): %x, wanted %x", s, got, wanted)
		}
	}
}

func TestCRCOfParts(t *testing.T) { // P2.1
	s := "123456789"
	for i := range len(s) + 1 {
		for j := range i + 1 {
			if got := sum.CRC(s[:j], s[j:i], s[i:]); got != 0xe3069283 {
				t.Errorf("CRC(%q, %q, %q): %x", s[:j], s[j:i], s[i:], got)
			}
		}
	}
	for _, l := range [][]string{nil, {}, {""}, {"", "", ""}} {
		if got := sum.CRC(l...); got != 0 {
			t.Errorf("CRC(%q): %x, wanted 0", l, got)
		}
	}
	if got := sum.CRC("", "6789", "12345"); got != crc("678912345") {
		t.Errorf("CRC of turned parts: %x", got)
	}
}

func TestStep(t *testing.T) { // P2.1
	table := crc32.MakeTable(crc32.Castagnoli)
	for _, n := range []uint32{0, 1, 0x80, 0xff, 0x100, 0x12345678, 0x80000000, 0x82f63b78, 0xdeadbeef, 0xffffffff} {
		for c := range 256 {
			wanted := table[byte(n)^byte(c)] ^ n>>8
			if got := sum.Step(n, byte(c)); got != wanted {
				t.Errorf("Step(%x, %x): %x, wanted %x", n, c, got, wanted)
			}
		}
	}
}

func TestQuick(t *testing.T) { // P2.2
	for _, c := range []struct {
		s string
		n uint64
	}{
		{"", 14695981039346656037}, {"a", 0xaf63dc4c8601ec8c}, {"foobar", 0x85944171f73967e8},
	} {
		if got := sum.Quick(c.s); got != c.n {
			t.Errorf("Quick(%q): %x, wanted %x", c.s, got, c.n)
		}
	}
	for _, s := range texts() {
		h := fnv.New64a()
		h.Write([]byte(s))
		if got, wanted := sum.Quick(s), h.Sum64(); got != wanted {
			t.Errorf("Quick(%q): %x, wanted %x", s, got, wanted)
		}
	}
}

func TestQuickOfParts(t *testing.T) { // P2.2
	s := "foobar"
	for i := range len(s) + 1 {
		for j := range i + 1 {
			if got := sum.Quick(s[:j], s[j:i], s[i:]); got != 0x85944171f73967e8 {
				t.Errorf("Quick(%q, %q, %q): %x", s[:j], s[j:i], s[i:], got)
			}
		}
	}
	for _, l := range [][]string{nil, {}, {""}, {"", "", ""}} {
		if got := sum.Quick(l...); got != 14695981039346656037 {
			t.Errorf("Quick(%q): %x", l, got)
		}
	}
	if sum.Quick("bar", "foo") == sum.Quick("foo", "bar") {
		t.Error("Quick of turned parts is the same")
	}
}

func TestPartsStay(t *testing.T) { // the rule on memory: what is handed in isn't changed, spare room included
	room := []string{"a", "b", "c", "d"}
	sum.CRC(room[:2]...)
	sum.Quick(room[:2]...)
	if got := strings.Join(room, " "); got != "a b c d" {
		t.Errorf("the parts are %q", got)
	}
}

func TestMark(t *testing.T) { // P2.3
	if got := sum.Mark("123456789"); got != "123456789\x83\x92\x06\xe3" {
		t.Errorf("Mark: %x", got)
	}
	if got := sum.Mark(""); got != "\x00\x00\x00\x00" {
		t.Errorf("Mark of nothing: %x", got)
	}
	for _, s := range texts() {
		n := crc(s)
		wanted := s + string([]byte{byte(n), byte(n >> 8), byte(n >> 16), byte(n >> 24)})
		if got := sum.Mark(s); got != wanted {
			t.Errorf("Mark(%q): %x, wanted %x", s, got, wanted)
		}
	}
}

func TestCheck(t *testing.T) { // P2.3
	for _, s := range texts() {
		if got, e := sum.Check(sum.Mark(s)); got != s || e != api.OK {
			t.Errorf("Check of Mark(%q): %q, %v", s, got, e)
		}
	}
	for _, c := range []struct {
		s string
		e api.Errno
	}{
		{"", api.ErrShort},
		{"\x00", api.ErrShort},
		{"\x00\x00\x00", api.ErrShort},
		{"abc", api.ErrShort},
		{"abcd", api.ErrSum},
		{"\x00\x00\x00\x01", api.ErrSum},
		{"\xff\xff\xff\xff", api.ErrSum},
		{"\x00\x00\x00\x00\x00", api.ErrSum},
		{"123456789", api.ErrSum},
		{"123456789\xe3\x06\x92\x83", api.ErrSum},
		{"123456789\x83\x92\x06", api.ErrSum},
		{"123456789\x83\x92\x06\xe3\x00", api.ErrSum},
		{"23456789\x83\x92\x06\xe3", api.ErrSum},
		{"\x83\x92\x06\xe3123456789", api.ErrSum},
	} {
		if got, e := sum.Check(c.s); got != "" || e != c.e {
			t.Errorf("Check(%x): %x, %v, wanted nothing, %v", c.s, got, e, c.e)
		}
	}
}

// turn: a text of which some bits are turned, those of mask from the bit at on, each byte's lowest first, or its highest.
func turn(s string, mask uint32, at int, highest bool) string {
	b := []byte(s)
	for i := range 32 {
		if mask>>i&1 == 0 {
			continue
		}
		bit := (at + i) % 8
		if highest {
			bit = 7 - bit
		}
		b[(at+i)/8] ^= 1 << bit
	}
	return string(b)
}

// noneIsMarked fails the test, if the mask somewhere turns a marked text into another one.
func noneIsMarked(t *testing.T, marked string, mask uint32, size int, highest bool) {
	t.Helper()
	for at := range 8*len(marked) - size + 1 {
		if got, e := sum.Check(turn(marked, mask, at, highest)); got != "" || e != api.ErrSum {
			t.Errorf("%x, turned by %x at %d: %x, %v", marked, mask, at, got, e)
		}
	}
}

func TestTurnedBits(t *testing.T) { // P2.4
	for _, s := range []string{"", "\x00", "hi", "123456789", strings.Repeat("\xff\x00", 20)} {
		marked := sum.Mark(s)
		for size := 1; size <= 32; size++ {
			all := ^uint32(0) >> (32 - size)
			noneIsMarked(t, marked, all, size, false)
			noneIsMarked(t, marked, all, size, true)
		}
	}
}

func TestTurnedSomeBits(t *testing.T) { // P2.4
	masks := uint32(1)
	for _, s := range []string{"", "hi", "123456789"} {
		marked := sum.Mark(s)
		for size := 2; size <= 32; size++ {
			for range 20 {
				masks = masks*1664525 + 1013904223
				ends := uint32(1) | 1<<(size-1)
				noneIsMarked(t, marked, masks&(1<<(size-1)-1)|ends, size, false)
			}
		}
	}
}
