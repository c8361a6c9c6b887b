package frame_test

import (
	"encoding/binary"
	"hash/crc32"
	"math"
	"slices"
	"strings"
	"testing"

	"outrider/api"
	"outrider/frame"
)

// marked: a text, and its CRC-32C behind it.
func marked(s string) string {
	n := crc32.Checksum([]byte(s), crc32.MakeTable(crc32.Castagnoli))
	return s + string(binary.LittleEndian.AppendUint32(nil, n))
}

// head: what a frame of any kind and length begins with.
func head(kind byte, epoch uint64, length uint32) string {
	b := append([]byte("OF\x01"), kind)
	b = binary.BigEndian.AppendUint64(b, epoch)
	return string(binary.BigEndian.AppendUint32(b, length))
}

// bytesOf: a frame's bytes, by hand.
func bytesOf(f frame.Frame) string {
	return marked(head(byte(f.Kind), f.Epoch, uint32(len(f.Body))) + f.Body)
}

// frames: the ends of what may be, and some between.
func frames() []frame.Frame {
	var l []frame.Frame
	for _, kind := range []int{1, 7, 127, 128, 254, 255} {
		for _, epoch := range []uint64{0, 9, 0x0123456789abcdef, 1 << 63, math.MaxUint64} {
			for _, body := range []string{"", "hi", "\x00", "\xff\xfe\x80", "OF\x01", strings.Repeat("outrider", 32), strings.Repeat("\x00", 8191), strings.Repeat("z", 8192)} {
				l = append(l, frame.Frame{Kind: kind, Epoch: epoch, Body: body})
			}
		}
	}
	return l
}

func TestBytes(t *testing.T) { // P8.1
	wanted := "OF\x01\x07\x00\x00\x00\x00\x00\x00\x00\x09\x00\x00\x00\x02hi"
	if s, e := (frame.Frame{Kind: 7, Epoch: 9, Body: "hi"}).Bytes(); s != marked(wanted) || e != api.OK {
		t.Errorf("Bytes: %x, %v", s, e)
	}
	for _, f := range frames() {
		if s, e := f.Bytes(); s != bytesOf(f) || e != api.OK {
			t.Errorf("Bytes of %.40v: %.40x, %v", f, s, e)
		}
	}
}

func TestBytesErrors(t *testing.T) { // P8.1
	for _, c := range []struct {
		kind, length int
		e            api.Errno
	}{
		{0, 2, api.ErrKind},
		{-1, 2, api.ErrKind},
		{256, 2, api.ErrKind},
		{257, 2, api.ErrKind},
		{math.MaxInt, 2, api.ErrKind},
		{math.MinInt, 2, api.ErrKind},
		{0, 8193, api.ErrKind},
		{256, 8193, api.ErrKind},
		{1, 8193, api.ErrLong},
		{255, 1 << 20, api.ErrLong},
	} {
		if s, e := (frame.Frame{Kind: c.kind, Epoch: 1, Body: strings.Repeat("x", c.length)}).Bytes(); s != "" || e != c.e {
			t.Errorf("Bytes of the kind %d and %d bytes: %.40x, %v, wanted %v", c.kind, c.length, s, e, c.e)
		}
	}
}

func TestSize(t *testing.T) { // P8.1
	for _, n := range []int{0, 1, 2, 100, 8191, 8192, 8193, 1 << 30, math.MaxInt - 20} {
		if got := frame.Size(n); got != n+20 {
			t.Errorf("Size(%d): %d", n, got)
		}
	}
	for n := math.MaxInt - 19; n < math.MaxInt; n++ { // it doesn't go round
		if got := frame.Size(n); got != math.MaxInt {
			t.Errorf("Size(%d): %d", n, got)
		}
	}
	if got := frame.Size(math.MaxInt); got != math.MaxInt {
		t.Errorf("Size of the greatest number: %d", got)
	}
	for _, f := range frames() {
		if s, _ := f.Bytes(); len(s) != frame.Size(len(f.Body)) {
			t.Errorf("%d bytes, of a body of %d", len(s), len(f.Body))
		}
	}
}

func TestNext(t *testing.T) { // P8.2, P8.3
	for _, f := range frames() {
		s := bytesOf(f)
		for _, rest := range []string{"", "x", "\x00", s, strings.Repeat("y", 9000)} {
			if got, left, e := frame.Next(s + rest); got != f || left != rest || e != api.OK {
				t.Errorf("Next of %.40v and %.20q: %.40v, %.20q, %v", f, rest, got, left, e)
			}
		}
	}
}

func TestParse(t *testing.T) { // P8.2, P8.3
	for _, f := range frames() {
		s := bytesOf(f)
		if got, e := frame.Parse(s); got != f || e != api.OK {
			t.Errorf("Parse of %.40v: %.40v, %v", f, got, e)
		}
		for _, rest := range []string{"x", "\x00", s} {
			if got, e := frame.Parse(s + rest); got != (frame.Frame{}) || e != api.ErrForm {
				t.Errorf("Parse of %.40v and %.20q: %.40v, %v", f, rest, got, e)
			}
		}
	}
}

func TestReadErrors(t *testing.T) { // P8.2
	fine := bytesOf(frame.Frame{Kind: 7, Epoch: 9, Body: "hi"})
	full := strings.Repeat("x", 8192)
	for _, c := range []struct {
		what, s string
		e       api.Errno
	}{
		{"nothing", "", api.ErrShort},
		{"OF", "OF", api.ErrShort},
		{"19 bytes", fine[:19], api.ErrShort},
		{"19 other bytes", strings.Repeat("x", 19), api.ErrShort},
		{"19 bytes of the kind 0", head(0, 9, 9000) + "xyz", api.ErrShort},
		{"20 other bytes", strings.Repeat("x", 20), api.ErrForm},
		{"another O", marked("o" + head(7, 9, 0)[1:]), api.ErrForm},
		{"another F", marked("Of" + head(7, 9, 0)[2:]), api.ErrForm},
		{"the version 0", marked("OF\x00" + head(7, 9, 0)[3:]), api.ErrForm},
		{"the version 2", marked("OF\x02" + head(7, 9, 0)[3:]), api.ErrForm},
		{"the version 2 and the kind 0", marked("OF\x02" + head(0, 9, 9000)[3:]), api.ErrForm},
		{"a frame a byte later", "x" + fine, api.ErrForm},
		{"the kind 0", marked(head(0, 9, 0)), api.ErrKind},
		{"the kind 0, too long", marked(head(0, 9, 8193)), api.ErrKind},
		{"the kind 0, too short", marked(head(0, 9, 1)), api.ErrKind},
		{"the kind 0, another sum", head(0, 9, 0) + "abcd", api.ErrKind},
		{"too long", marked(head(7, 9, 8193) + full + "x"), api.ErrLong},
		{"too long, and it ends", marked(head(7, 9, 8193)), api.ErrLong},
		{"too long by far", marked(head(7, 9, math.MaxUint32)), api.ErrLong},
		{"too long by the highest bit", marked(head(7, 9, 1<<31)), api.ErrLong},
		{"too long by the other order of bytes", marked(head(7, 9, 2<<24) + "hi"), api.ErrLong},
		{"a byte less", fine[:len(fine)-1], api.ErrShort},
		{"half a sum", fine[:len(fine)-2], api.ErrShort},
		{"a body that isn't there", marked(head(7, 9, 1)), api.ErrShort},
		{"the longest, a byte less", marked(head(7, 9, 8192) + full[1:]), api.ErrShort},
		{"another sum", fine[:len(fine)-1] + "x", api.ErrSum},
		{"no sum", head(7, 9, 0) + "\x00\x00\x00\x00", api.ErrSum},
		{"the sum of the body", head(7, 9, 2) + marked("hi"), api.ErrSum},
		{"another body", strings.Replace(fine, "hi", "ho", 1), api.ErrSum},
		{"another kind", strings.Replace(fine, "\x07", "\x08", 1), api.ErrSum},
		{"another epoch", strings.Replace(fine, "\x09", "\x08", 1), api.ErrSum},
		{"a shorter length", strings.Replace(fine, "\x02hi", "\x01hi", 1), api.ErrSum},
		{"the longest, another sum", head(7, 9, 8192) + full + "abcd", api.ErrSum},
	} {
		for _, rest := range []string{"", "rest"} {
			if rest != "" && (c.e == api.ErrShort || c.e == api.ErrSum) {
				continue // with a rest these may be something else
			}
			if f, left, e := frame.Next(c.s + rest); f != (frame.Frame{}) || left != "" || e != c.e {
				t.Errorf("Next of %s: %.40v, %.20q, %v, wanted %v", c.what, f, left, e, c.e)
			}
			if f, e := frame.Parse(c.s + rest); f != (frame.Frame{}) || e != c.e {
				t.Errorf("Parse of %s: %.40v, %v, wanted %v", c.what, f, e, c.e)
			}
		}
	}
	if f, e := frame.Parse(fine[:len(fine)-1] + "xy"); f != (frame.Frame{}) || e != api.ErrSum { // ahead of the rest
		t.Errorf("Parse of another sum and a rest: %v, %v", f, e)
	}
}

func TestAll(t *testing.T) { // P8.2
	one, two := frame.Frame{Kind: 1, Epoch: 2, Body: "a"}, frame.Frame{Kind: 255, Body: strings.Repeat("b", 8192)}
	a, b := bytesOf(one), bytesOf(two)
	wrong := a[:len(a)-1] + "x"
	for i, c := range []struct {
		s    string
		l    []frame.Frame
		left string
	}{
		{"", nil, ""},
		{"y", nil, "y"},
		{a, []frame.Frame{one}, ""},
		{a + "y", []frame.Frame{one}, "y"},
		{a + a + b, []frame.Frame{one, one, two}, ""},
		{b + a + a[:20], []frame.Frame{two, one}, a[:20]},
		{a + wrong + b, []frame.Frame{one}, wrong + b},
		{wrong + a, nil, wrong + a},
		{a + "x" + a, []frame.Frame{one}, "x" + a},
		{a + marked(head(0, 1, 0)) + a, []frame.Frame{one}, marked(head(0, 1, 0)) + a},
		{strings.Repeat("z", 20000), nil, strings.Repeat("z", 20000)},
	} {
		if l, left := frame.All(c.s); !slices.Equal(l, c.l) || left != c.left {
			t.Errorf("All of the text %d: %.80v, %.40x", i, l, left)
		}
	}
	if l, left := frame.All(strings.Repeat(a, 50000) + "y"); len(l) != 50000 || left != "y" {
		t.Errorf("All of many: %d frames, %.40x", len(l), left)
	}
}

func TestReadIsWritten(t *testing.T) { // P8.3
	for _, f := range frames() {
		s, e := f.Bytes()
		if got, err := frame.Parse(s); got != f || e != api.OK || err != api.OK {
			t.Errorf("Parse of Bytes of %.40v: %.40v, %v, %v", f, got, e, err)
		}
		if len(f.Body) > 300 {
			continue
		}
		for i := range len(s) { // what ends too early is none
			if _, _, e := frame.Next(s[:i]); e != api.ErrShort {
				t.Errorf("Next of %d bytes of %.40v: %v", i, f, e)
			}
		}
	}
}

// turn: a text of which some bits are turned, those of mask from the bit at on, each byte's lowest first, or its highest.
func turn(s string, mask uint32, at int, highest bool) string {
	b := []byte(s)
	for i := range 32 {
		if mask>>i&1 == 0 {
			continue
		}
		bit := (at + i) % 8
		if highest {
			bit = 7 - bit
		}
		b[(at+i)/8] ^= 1 << bit
	}
	return string(b)
}

// noneIsFrame fails the test, if the mask somewhere turns a frame into one of its length.
func noneIsFrame(t *testing.T, s string, mask uint32, size int, highest bool) {
	t.Helper()
	for at := range 8*len(s) - size + 1 {
		turned := turn(s, mask, at, highest)
		if f, e := frame.Parse(turned); f != (frame.Frame{}) || e == api.OK {
			t.Errorf("%x, turned by %x at %d: %v, %v", s, mask, at, f, e)
		}
		if f, rest, e := frame.Next(turned); e == api.OK && rest == "" {
			t.Errorf("%x, turned by %x at %d: Next has %v", s, mask, at, f)
		}
	}
}

func TestTurnedBits(t *testing.T) { // P8.3
	masks := uint32(1)
	for _, f := range []frame.Frame{{Kind: 1}, {Kind: 7, Epoch: 9, Body: "hi"}, {Kind: 255, Epoch: math.MaxUint64, Body: "\x00\xff\x00\xff\x00"}} {
		s := bytesOf(f)
		for size := 1; size <= 32; size++ {
			all := ^uint32(0) >> (32 - size)
			noneIsFrame(t, s, all, size, false)
			noneIsFrame(t, s, all, size, true)
			for range 5 {
				masks = masks*1664525 + 1013904223
				ends := uint32(1) | 1<<(size-1)
				noneIsFrame(t, s, masks&all|ends, size, false)
			}
		}
	}
}
