package codec_test

import (
	"encoding/binary"
	"math"
	"reflect"
	"slices"
	"strings"
	"testing"

	"outrider/api"
	"outrider/codec"
)

// Values by hand, so that these tests don't lean on Num, Text and List.

func num(n uint64) codec.Value         { return codec.Value{Kind: 1, N: n} }
func text(s string) codec.Value        { return codec.Value{Kind: 2, S: s} }
func row(l ...codec.Value) codec.Value { return codec.Value{Kind: 3, L: l} }
func kind(n int) codec.Value           { return codec.Value{Kind: n} }

// long: a text of n bytes.
func long(n int) codec.Value { return text(strings.Repeat("x", n)) }

// noughts: n noughts, and others behind them.
func noughts(n int, l ...codec.Value) codec.Value {
	return row(append(slices.Repeat([]codec.Value{num(0)}, n), l...)...)
}

// copied: a value in new memory, whose lists without elements are nil.
func copied(v codec.Value) codec.Value {
	own := codec.Value{Kind: v.Kind, N: v.N, S: v.S}
	for _, w := range v.L {
		own.L = append(own.L, copied(w))
	}
	return own
}

// equal: are two the same? (Not by Same, which is under test.)
func equal(a, b codec.Value) bool { return reflect.DeepEqual(copied(a), copied(b)) }

// isNothing: is it the zero value?
func isNothing(v codec.Value) bool { return equal(v, codec.Value{}) }

// lists: what n lists of one element each begin with, one in another, and what stands behind that.
func lists(n int, behind string) string { return strings.Repeat("\x03\x01", n) + behind }

// within: a value in n lists, one in another.
func within(n int, v codec.Value) codec.Value {
	for range n {
		v = row(v)
	}
	return v
}

// written: some values and their writings.
func written() []struct {
	v codec.Value
	s string
} {
	return []struct {
		v codec.Value
		s string
	}{
		{num(0), "\x01\x00"},
		{num(5), "\x01\x05"},
		{num(127), "\x01\x7f"},
		{num(128), "\x01\x80\x01"},
		{num(300), "\x01\xac\x02"},
		{num(math.MaxUint64), "\x01\xff\xff\xff\xff\xff\xff\xff\xff\xff\x01"},
		{text(""), "\x02\x00"},
		{text("ab"), "\x02\x02ab"},
		{text("\x00\xff\x80 not UTF-8"), "\x02\x0d\x00\xff\x80 not UTF-8"},
		{long(127), "\x02\x7f" + strings.Repeat("x", 127)},
		{long(128), "\x02\x80\x01" + strings.Repeat("x", 128)},
		{row(), "\x03\x00"},
		{row(num(5)), "\x03\x01\x01\x05"},
		{row(num(5), text("ab"), row()), "\x03\x03\x01\x05\x02\x02ab\x03\x00"},
		{row(row(), row(row()), num(1)), "\x03\x03\x03\x00\x03\x01\x03\x00\x01\x01"},
		{row(row(num(1), num(2)), num(3)), "\x03\x02\x03\x02\x01\x01\x01\x02\x01\x03"},
		{noughts(128), "\x03\x80\x01" + strings.Repeat("\x01\x00", 128)},
		{within(6, num(1)), lists(6, "\x01\x01")},
		{within(5, row()), lists(5, "\x03\x00")},
		{row(within(5, num(1)), within(5, num(2))), "\x03\x02" + lists(5, "\x01\x01") + lists(5, "\x01\x02")},
		{row(within(5, text("")), row(), num(7)), "\x03\x03" + lists(5, "\x02\x00") + "\x03\x00\x01\x07"},
		{long(8189), "\x02\xfd\x3f" + strings.Repeat("x", 8189)},
		{noughts(4094), "\x03\xfe\x1f" + strings.Repeat("\x01\x00", 4094)},
	}
}

func TestPut(t *testing.T) { // P7.1
	for _, c := range written() {
		if s, e := codec.Put(c.v); s != c.s || e != api.OK {
			t.Errorf("Put(%v): %x, %v, wanted %x", c.v, s, e, c.s)
		}
	}
	for _, n := range []uint64{0, 1, 1<<7 - 1, 1 << 7, 1<<14 - 1, 1 << 14, 1 << 32, 1 << 63, math.MaxUint64} {
		if s, e := codec.Put(num(n)); s != "\x01"+string(binary.AppendUvarint(nil, n)) || e != api.OK {
			t.Errorf("Put of %d: %x, %v", n, s, e)
		}
	}
	empty := codec.Value{Kind: 3, L: make([]codec.Value, 0, 4)}
	for _, v := range []codec.Value{{Kind: 1, N: 9, L: empty.L}, {Kind: 2, S: "x", L: empty.L}, empty} { // no elements are nothing
		if _, e := codec.Put(v); e != api.OK {
			t.Errorf("Put(%v) fails", v)
		}
	}
}

func TestPutKind(t *testing.T) { // P7.1
	deep, large := within(7, num(1)), long(9000)
	for i, v := range []codec.Value{
		{},
		kind(4), kind(-1), kind(256), kind(257), kind(258), kind(259), kind(math.MaxInt), kind(math.MinInt),
		{Kind: 1, S: "x"},
		{Kind: 1, L: []codec.Value{num(1)}},
		{Kind: 1, N: 5, L: []codec.Value{{}}},
		{Kind: 2, N: 1},
		{Kind: 2, S: "x", N: 1},
		{Kind: 2, L: []codec.Value{num(1)}},
		{Kind: 3, N: 1},
		{Kind: 3, S: "x"},
		{Kind: 3, N: 1, L: []codec.Value{num(1)}},
		row(num(1), kind(0)),
		row(row(), row(num(1), codec.Value{Kind: 2, N: 1})),
		within(6, kind(4)),
		within(7, kind(4)),  // too deep too
		row(deep, kind(4)),  // behind what is too deep
		row(large, kind(4)), // behind what is too long
		row(large, deep, codec.Value{Kind: 3, S: "x"}),
		within(1000, codec.Value{Kind: 1, S: "x"}),
	} {
		if s, e := codec.Put(v); s != "" || e != api.ErrKind {
			t.Errorf("Put of the value %d: %x, %v, wanted ErrKind", i, s, e)
		}
	}
}

func TestPutDeep(t *testing.T) { // P7.1
	for _, v := range []codec.Value{
		within(6, row()),
		within(7, num(1)),
		within(8, text("x")),
		row(num(1), within(6, num(1)), row()),
		row(within(5, num(1)), within(6, num(1))),
		row(long(9000), within(6, num(1))), // too long too
		row(within(6, long(9000))),
		within(1<<16, num(1)),
	} {
		if s, e := codec.Put(v); s != "" || e != api.ErrDeep {
			t.Errorf("Put of what is %d deep: %x, %v, wanted ErrDeep", codec.Deep(v), s, e)
		}
	}
}

func TestPutLong(t *testing.T) { // P7.1
	for _, c := range []struct {
		v codec.Value
		e api.Errno
	}{
		{long(8189), api.OK},
		{long(8190), api.ErrLong},
		{long(8192), api.ErrLong},
		{long(1 << 20), api.ErrLong},
		{noughts(4093, num(128)), api.OK},
		{noughts(4095), api.ErrLong},
		{noughts(4094, num(1)), api.ErrLong},
		{noughts(4093, num(1<<14)), api.ErrLong},
		{noughts(1 << 20), api.ErrLong},
		{row(long(8187)), api.OK},
		{row(long(8188)), api.ErrLong},
		{row(long(8185), num(1)), api.OK},
		{row(long(8186), num(1)), api.ErrLong},
		{row(long(8185), num(128)), api.ErrLong},
		{row(long(8186), row()), api.ErrLong},
		{row(long(8186), text("")), api.ErrLong},
		{row(long(9000), text("")), api.ErrLong},
		{within(6, long(8177)), api.OK},
		{within(6, long(8178)), api.ErrLong},
	} {
		s, e := codec.Put(c.v)
		if e != c.e || e == api.OK && len(s) != 8192 || e != api.OK && s != "" {
			t.Errorf("Put: %d bytes, %v, wanted %v", len(s), e, c.e)
		}
	}
}

func TestNext(t *testing.T) { // P7.2
	for _, c := range written() {
		for _, rest := range []string{"", "\x00", "x", "\x01", "\x80", "\x01\x05", "\x04\x80\x00"} {
			if len(c.s)+len(rest) > 8192 {
				continue
			}
			if v, left, e := codec.Next(c.s + rest); !equal(v, c.v) || left != rest || e != api.OK {
				t.Errorf("Next(%x and %x): %v, %x, %v, wanted %v", c.s, rest, v, left, e, c.v)
			}
		}
	}
}

func TestGet(t *testing.T) { // P7.2
	for _, c := range written() {
		if v, e := codec.Get(c.s); !equal(v, c.v) || e != api.OK {
			t.Errorf("Get(%x): %v, %v, wanted %v", c.s, v, e, c.v)
		}
		for _, rest := range []string{"\x00", "x", "\x01\x05", "\x04", "\x80"} {
			wanted := api.ErrForm
			if len(c.s)+len(rest) > 8192 {
				wanted = api.ErrLong
			}
			if v, e := codec.Get(c.s + rest); !isNothing(v) || e != wanted {
				t.Errorf("Get(%x and %x): %v, %v, wanted %v", c.s, rest, v, e, wanted)
			}
		}
	}
}

func TestReadErrors(t *testing.T) { // P7.2
	full, empty := strings.Repeat("\xff", 9), strings.Repeat("\x80", 9)
	for _, c := range []struct {
		s string
		e api.Errno
	}{
		{"", api.ErrShort},
		{"\x01", api.ErrShort},
		{"\x02", api.ErrShort},
		{"\x03", api.ErrShort},
		{"\x01\x80", api.ErrShort},
		{"\x01" + full, api.ErrShort},
		{"\x02\x80", api.ErrShort},
		{"\x03\x80", api.ErrShort},
		{"\x02\x01", api.ErrShort},
		{"\x02\x05ab", api.ErrShort},
		{"\x02\x05abcd", api.ErrShort},
		{"\x02" + full + "\x01ab", api.ErrShort},
		{"\x02" + empty + "\x01ab", api.ErrShort},
		{"\x03\x01", api.ErrShort},
		{"\x03\x02\x01\x05", api.ErrShort},
		{"\x03\x02\x03\x01\x01\x05", api.ErrShort},
		{"\x03" + full + "\x01", api.ErrShort},
		{"\x03" + full + "\x01\x01\x05", api.ErrShort},
		{"\x03" + empty + "\x01\x01\x05", api.ErrShort},
		{"\x00", api.ErrKind},
		{"\x04", api.ErrKind},
		{"\x04\x80\x00", api.ErrKind},
		{"\xff", api.ErrKind},
		{"\x81\x00", api.ErrKind},
		{"\x03\x01\x00", api.ErrKind},
		{"\x03\x02\x01\x05\x04", api.ErrKind},
		{"\x03\x02\x00\x01\x80\x00", api.ErrKind},
		{"\x03" + full + "\x01\x04", api.ErrKind},
		{"\x01\x80\x00", api.ErrForm},
		{"\x02\x80\x00", api.ErrForm},
		{"\x03\x80\x00", api.ErrForm},
		{"\x01" + full + "\x02", api.ErrForm},
		{"\x01" + full + "\x80", api.ErrForm},
		{"\x01" + full + "\xff\x01", api.ErrForm},
		{"\x02" + full + "\x02ab", api.ErrForm},
		{"\x03" + full + "\x02", api.ErrForm},
		{"\x03\x02\x01\x80\x00\x04", api.ErrForm},
		{"\x03\x02\x04\x01\x80\x00", api.ErrKind},
		{"\x03\x02\x02\x09ab", api.ErrShort},
		{lists(6, "\x03\x00"), api.ErrDeep},
		{lists(6, "\x03\x01"), api.ErrDeep},
		{lists(6, "\x03\x05\x04"), api.ErrDeep},
		{lists(6, "\x03"+full+"\x01"), api.ErrDeep},
		{lists(6, "\x03"), api.ErrShort},
		{lists(6, "\x03\x80"), api.ErrShort},
		{lists(6, "\x03\x80\x00"), api.ErrForm},
		{lists(6, "\x04"), api.ErrKind},
		{lists(6, ""), api.ErrShort},
		{lists(4000, ""), api.ErrDeep},
		{"\x03\x02" + lists(5, "\x01\x01") + lists(6, "\x01\x01"), api.ErrDeep},
		{"\x03\x02" + lists(6, "\x01\x01") + "\x04", api.ErrDeep},
		{"\x03\x02\x04" + lists(6, "\x01\x01"), api.ErrKind},
	} {
		if v, rest, e := codec.Next(c.s); !isNothing(v) || rest != "" || e != c.e {
			t.Errorf("Next(%.40x): %v, %x, %v, wanted %v", c.s, v, rest, e, c.e)
		}
		if v, e := codec.Get(c.s); !isNothing(v) || e != c.e {
			t.Errorf("Get(%.40x): %v, %v, wanted %v", c.s, v, e, c.e)
		}
	}
}

func TestReadLong(t *testing.T) { // P7.2
	rest := strings.Repeat("y", 8190)
	if v, left, e := codec.Next("\x01\x05" + rest); !equal(v, num(5)) || left != rest || e != api.OK {
		t.Errorf("Next of 8192 bytes: %v, %d left, %v", v, len(left), e)
	}
	if v, e := codec.Get("\x01\x05" + rest); !isNothing(v) || e != api.ErrForm {
		t.Errorf("Get of 8192 bytes: %v, %v", v, e)
	}
	for _, s := range []string{
		"\x01\x05" + rest + "y", "\x04" + rest + "yy", "\x01\x80\x00" + rest, lists(4096, "\x00"),
		"\x02\xfe\x3f" + strings.Repeat("x", 8190), strings.Repeat("\x01", 1<<20),
	} {
		if v, left, e := codec.Next(s); !isNothing(v) || left != "" || e != api.ErrLong {
			t.Errorf("Next of %d bytes: %v, %v", len(s), v, e)
		}
		if v, e := codec.Get(s); !isNothing(v) || e != api.ErrLong {
			t.Errorf("Get of %d bytes: %v, %v", len(s), v, e)
		}
	}
}

func TestDeep(t *testing.T) { // P7.2
	for _, c := range []struct {
		v codec.Value
		n int
	}{
		{codec.Value{}, 0},
		{num(5), 0},
		{text("x"), 0},
		{codec.Value{Kind: 1, L: []codec.Value{row()}}, 0},
		{codec.Value{Kind: 2, L: []codec.Value{row()}}, 0},
		{codec.Value{Kind: 4, L: []codec.Value{row()}}, 0},
		{codec.Value{Kind: -3, L: []codec.Value{row()}}, 0},
		{codec.Value{L: []codec.Value{row()}}, 0},
		{row(), 1},
		{codec.Value{Kind: 3, L: []codec.Value{}}, 1},
		{codec.Value{Kind: 3, N: 1, S: "x"}, 1},
		{row(num(1), text("x"), kind(9)), 1},
		{row(codec.Value{Kind: 1, L: []codec.Value{row(row())}}), 1},
		{row(row()), 2},
		{row(num(5), text("ab"), row()), 2},
		{row(within(3, num(1)), num(1), row()), 4},
		{row(row(), num(1), within(3, num(1)), row()), 4},
		{row(row(), within(2, row())), 4},
		{within(6, num(1)), 6},
		{within(7, num(1)), 7},
		{within(7, row()), 8},
		{within(1<<16, num(1)), 1 << 16},
	} {
		if n := codec.Deep(c.v); n != c.n {
			t.Errorf("Deep: %d, wanted %d", n, c.n)
		}
	}
}

func TestSame(t *testing.T) { // P7.2
	all := []codec.Value{
		{}, kind(1), kind(2), kind(3), kind(4), kind(-1),
		num(1), num(2), num(math.MaxUint64), text("a"), text("b"), text("ab"), text("\x00"), text("\xff"), text("\xfe"),
		{Kind: 1, S: "a"}, {Kind: 2, N: 1}, {Kind: 3, N: 1}, {Kind: 3, S: "a"}, {Kind: 1, N: 1, L: []codec.Value{num(1)}}, {N: 1}, {S: "a"},
		row(num(1)), row(num(2)), row(num(1), num(2)), row(num(2), num(1)), row(num(1), num(2), num(3)), row(text("a")),
		row(row()), row(row(), row()), row(row(row())), row(row(num(1))), row(row(num(2))), row(row(num(1)), num(1)), row(kind(9)),
		within(1<<16, num(1)), within(1<<16, num(2)),
	}
	for i, a := range all {
		for j, b := range all {
			if got := codec.Same(a, copied(b)); got != (i == j) {
				t.Errorf("Same of %d and %d: %v", i, j, got)
			}
		}
	}
	if !codec.Same(row(row()), row(codec.Value{Kind: 3, L: make([]codec.Value, 0, 3)})) {
		t.Error("a list that is nil isn't the same as an empty one")
	}
}

func TestValues(t *testing.T) { // P7.2
	if v := codec.Num(300); !equal(v, num(300)) {
		t.Errorf("Num: %v", v)
	}
	if v := codec.Text("ab\xff"); !equal(v, text("ab\xff")) {
		t.Errorf("Text: %v", v)
	}
	if v := codec.List(); !equal(v, row()) {
		t.Errorf("List of nothing: %v", v)
	}
	if v := codec.List(num(1), row(text("x"), row()), num(2)); !equal(v, row(num(1), row(text("x"), row()), num(2))) {
		t.Errorf("List: %v", v)
	}
	odd := codec.Value{Kind: 9, N: 1, S: "x", L: []codec.Value{{Kind: -1, S: "y"}}}
	if v := codec.List(odd); !equal(v, row(odd)) {
		t.Errorf("List of what is no value: %v", v)
	}
	if codec.Number != 1 || codec.String != 2 || codec.Row != 3 {
		t.Error("the kinds are others")
	}
}

func TestListIsNew(t *testing.T) { // the rule on memory: nothing of what is handed in is kept, or changed
	room := []codec.Value{row(row(num(1))), num(2), num(3)}
	v := codec.List(room[:2]...)
	_ = append(v.L, num(9))
	v.L[1] = num(8)
	v.L[0].L[0].L[0] = num(7)
	if !equal(row(room...), row(row(row(num(1))), num(2), num(3))) {
		t.Errorf("the values are %v", room)
	}
	w := codec.List(room[:2]...)
	room[0].L[0].L[0] = num(6)
	room[0].L[0] = num(5)
	room[1] = num(4)
	if !equal(w, row(row(row(num(1))), num(2))) {
		t.Errorf("the list is %v", w)
	}
}

func TestArgumentsStay(t *testing.T) { // the rule on memory
	for _, c := range written() {
		v := copied(c.v)
		codec.Put(v)
		codec.Deep(v)
		codec.Same(v, v)
		if !equal(v, c.v) {
			t.Errorf("%v became %v", c.v, v)
		}
	}
}

// TestListsReadApart: no two lists of an answer share memory, spare room included.
func TestListsReadApart(t *testing.T) { // the rule on memory
	inner := row(num(1), num(2), num(3))
	s, _ := codec.Put(row(inner, inner, row(inner, inner)))
	v, e := codec.Get(s)
	if e != api.OK {
		t.Fatal(e)
	}
	for _, l := range [][]codec.Value{v.L, v.L[0].L, v.L[2].L, v.L[2].L[0].L} {
		_ = append(l, num(9), num(9))
	}
	v.L[0].L[0] = num(8)
	if !equal(row(v.L[1:]...), row(inner, row(inner, inner))) {
		t.Errorf("the others became %v", v)
	}
}

// some: values by a rule, as deep as may be.
func some(seed *uint32, depth int) codec.Value {
	*seed = *seed*1664525 + 1013904223
	n := *seed >> 8
	switch {
	case n%3 == 0:
		return num(1<<(n>>3%64) - uint64(n>>10%3))
	case n%3 == 1 || depth == 0:
		return text(strings.Repeat(string([]byte{byte(n >> 4), byte(n >> 12)}), int(n>>6%80)))
	}
	v := row()
	for range n >> 5 % 5 {
		v.L = append(v.L, some(seed, depth-1))
	}
	return v
}

func TestWrittenIsRead(t *testing.T) { // P7.3
	seed := uint32(1)
	for range 3000 {
		v := row(some(&seed, 5), some(&seed, 5), some(&seed, 5))
		s, e := codec.Put(v)
		if e == api.ErrLong {
			continue
		}
		if got, f := codec.Get(s); !equal(got, v) || e != api.OK || f != api.OK {
			t.Fatalf("Get of Put(%v): %v, %v, %v", v, got, e, f)
		}
		for i := range len(s) { // what ends too early is never read
			if _, _, f := codec.Next(s[:i]); f != api.ErrShort {
				t.Fatalf("Next of %d bytes of Put(%v): %v", i, v, f)
			}
		}
	}
}

// each calls f with each text of up to n of the bytes.
func each(bytes string, n int, f func(s string)) {
	f("")
	if n == 0 {
		return
	}
	for i := range len(bytes) {
		each(bytes, n-1, func(s string) { f(bytes[i:i+1] + s) })
	}
}

func TestReadIsWritten(t *testing.T) { // P7.3
	read := 0
	each("\x00\x01\x02\x03\x04\x80", 7, func(s string) {
		v, rest, e := codec.Next(s)
		if e != api.OK {
			return
		}
		read++
		if w, f := codec.Put(v); f != api.OK || w+rest != s {
			t.Fatalf("Next(%x): %v, %x, which isn't written so, but %x", s, v, rest, w)
		}
	})
	if read == 0 {
		t.Error("nothing was read")
	}
}
