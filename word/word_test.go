package word_test

import (
	"encoding/binary"
	"math"
	"math/big"
	"strconv"
	"strings"
	"testing"

	"outrider/api"
	"outrider/word"
)

// numbers: the ends of every size, of every number of sevens and of every number of digits, and some between.
func numbers() []uint64 {
	l := []uint64{0, math.MaxUint64, math.MaxUint64 - 1, 300, 258, 0x0123456789abcdef, 0xfedcba9876543210, 0x8040201008040201}
	for i := range 64 {
		p := uint64(1) << i
		l = append(l, p-1, p, p+1)
	}
	ten := uint64(1)
	for range 19 {
		ten *= 10
		l = append(l, ten-1, ten, ten+1)
	}
	return l
}

// eight: a number's eight bytes.
func eight(n uint64) string { return string(binary.BigEndian.AppendUint64(nil, n)) }

// sevens: a number by sevens of bits.
func sevens(n uint64) string { return string(binary.AppendUvarint(nil, n)) }

func TestPut(t *testing.T) { // P1.1
	for _, n := range numbers() {
		for size := range 9 {
			if got, wanted := word.Put(n, size), eight(n)[8-size:]; got != wanted {
				t.Errorf("Put(%d, %d): %x, wanted %x", n, size, got, wanted)
			}
		}
		for _, size := range []int{9, 10, 16, 64, 1000, 1 << 30, math.MaxInt} {
			if got, wanted := word.Put(n, size), eight(n); got != wanted {
				t.Errorf("Put(%d, %d): %x, wanted %x", n, size, got, wanted)
			}
		}
		for _, size := range []int{-1, -2, -8, -256, math.MinInt} {
			if got := word.Put(n, size); got != "" {
				t.Errorf("Put(%d, %d): %x, wanted nothing", n, size, got)
			}
		}
	}
}

func TestGet(t *testing.T) { // P1.1
	for _, c := range []struct {
		s string
		n uint64
		e api.Errno
	}{
		{"", 0, api.ErrShort},
		{"\x00", 0, api.OK},
		{"\x01\x02", 258, api.OK},
		{"\xff", 255, api.OK},
		{"\x00\x00\x01", 1, api.OK},
		{"\x80\x00\x00\x00", 1 << 31, api.OK},
		{"\x01\x23\x45\x67\x89\xab\xcd\xef", 0x0123456789abcdef, api.OK},
		{"\xff\xff\xff\xff\xff\xff\xff\xff", math.MaxUint64, api.OK},
		{"\x00\x00\x00\x00\x00\x00\x00\x00\x00", 0, api.ErrLong},
		{"\x00\x00\x00\x00\x00\x00\x00\x00\x01", 0, api.ErrLong},
		{"\xff\xff\xff\xff\xff\xff\xff\xff\xff", 0, api.ErrLong},
		{strings.Repeat("\x01", 5000), 0, api.ErrLong},
	} {
		if n, e := word.Get(c.s); n != c.n || e != c.e {
			t.Errorf("Get(%x): %d, %v, wanted %d, %v", c.s, n, e, c.n, c.e)
		}
	}
}

func TestAdd(t *testing.T) { // P1.1
	for _, a := range numbers() {
		for _, b := range numbers() {
			exact := new(big.Int).Add(new(big.Int).SetUint64(a), new(big.Int).SetUint64(b))
			wanted := uint64(math.MaxUint64)
			if exact.IsUint64() {
				wanted = exact.Uint64()
			}
			if got := word.Add(a, b); got != wanted {
				t.Errorf("Add(%d, %d): %d, wanted %d", a, b, got, wanted)
			}
		}
	}
}

func TestSub(t *testing.T) { // P1.1
	for _, a := range numbers() {
		for _, b := range numbers() {
			wanted := uint64(0)
			if a > b {
				wanted = a - b
			}
			if got := word.Sub(a, b); got != wanted {
				t.Errorf("Sub(%d, %d): %d, wanted %d", a, b, got, wanted)
			}
		}
	}
}

func TestShort(t *testing.T) { // P1.2
	for _, c := range []struct {
		n uint64
		s string
	}{
		{0, "\x00"},
		{1, "\x01"},
		{127, "\x7f"},
		{128, "\x80\x01"},
		{300, "\xac\x02"},
		{16383, "\xff\x7f"},
		{16384, "\x80\x80\x01"},
		{1<<63 - 1, "\xff\xff\xff\xff\xff\xff\xff\xff\x7f"},
		{1 << 63, "\x80\x80\x80\x80\x80\x80\x80\x80\x80\x01"},
		{math.MaxUint64, "\xff\xff\xff\xff\xff\xff\xff\xff\xff\x01"},
	} {
		if got := word.Short(c.n); got != c.s {
			t.Errorf("Short(%d): %x, wanted %x", c.n, got, c.s)
		}
	}
	for _, n := range numbers() {
		if got, wanted := word.Short(n), sevens(n); got != wanted {
			t.Errorf("Short(%d): %x, wanted %x", n, got, wanted)
		}
	}
}

func TestLong(t *testing.T) { // P1.2
	full, empty := strings.Repeat("\xff", 9), strings.Repeat("\x80", 9)
	for _, c := range []struct {
		s string
		n uint64
		k int
		e api.Errno
	}{
		{"\x00", 0, 1, api.OK},
		{"\x00\x00", 0, 1, api.OK},
		{"\x05\x80", 5, 1, api.OK},
		{"\x7f\xff", 127, 1, api.OK},
		{"\xac\x02", 300, 2, api.OK},
		{"\xac\x02x", 300, 2, api.OK},
		{"\x80\x80\x01", 16384, 3, api.OK},
		{full + "\x01", math.MaxUint64, 10, api.OK},
		{full + "\x01\xff", math.MaxUint64, 10, api.OK},
		{empty + "\x01", 1 << 63, 10, api.OK},
		{"", 0, 0, api.ErrShort},
		{"\x80", 0, 0, api.ErrShort},
		{"\xff\xff\xff", 0, 0, api.ErrShort},
		{full, 0, 0, api.ErrShort},
		{empty, 0, 0, api.ErrShort},
		{full + "\xff", 0, 0, api.ErrForm},
		{full + "\x80", 0, 0, api.ErrForm},
		{empty + "\x80", 0, 0, api.ErrForm},
		{empty + "\x81", 0, 0, api.ErrForm},
		{empty + "\x81\x01", 0, 0, api.ErrForm},
		{strings.Repeat("\xff", 5000), 0, 0, api.ErrForm},
		{"\x80\x00", 0, 0, api.ErrForm},
		{"\xff\x00", 0, 0, api.ErrForm},
		{"\x80\x00x", 0, 0, api.ErrForm},
		{"\x81\x80\x00", 0, 0, api.ErrForm},
		{full + "\x00", 0, 0, api.ErrForm},
		{empty + "\x00", 0, 0, api.ErrForm},
		{full[1:] + "\x00", 0, 0, api.ErrForm},
		{full + "\x02", 0, 0, api.ErrForm},
		{full + "\x03", 0, 0, api.ErrForm},
		{empty + "\x02", 0, 0, api.ErrForm},
		{empty + "\x40", 0, 0, api.ErrForm},
		{full + "\x7f", 0, 0, api.ErrForm},
	} {
		if n, k, e := word.Long(c.s); n != c.n || k != c.k || e != c.e {
			t.Errorf("Long(%x): %d, %d, %v, wanted %d, %d, %v", c.s, n, k, e, c.n, c.k, c.e)
		}
	}
}

func TestDigits(t *testing.T) { // P1.3
	for _, c := range []struct {
		n uint64
		s string
	}{
		{0, "0"}, {7, "7"}, {10, "10"}, {300, "300"}, {math.MaxInt64, "9223372036854775807"},
		{1 << 63, "9223372036854775808"}, {math.MaxUint64, "18446744073709551615"},
	} {
		if got := word.Digits(c.n); got != c.s {
			t.Errorf("Digits(%d): %q, wanted %q", c.n, got, c.s)
		}
	}
	for _, n := range numbers() {
		if got, wanted := word.Digits(n), strconv.FormatUint(n, 10); got != wanted {
			t.Errorf("Digits(%d): %q, wanted %q", n, got, wanted)
		}
	}
}

func TestNumber(t *testing.T) { // P1.3
	for _, c := range []struct {
		s string
		n uint64
		e api.Errno
	}{
		{"0", 0, api.OK},
		{"7", 7, api.OK},
		{"10", 10, api.OK},
		{"9223372036854775808", 1 << 63, api.OK},
		{"18446744073709551615", math.MaxUint64, api.OK},
		{"", 0, api.ErrForm},
		{"00", 0, api.ErrForm},
		{"01", 0, api.ErrForm},
		{"0018", 0, api.ErrForm},
		{"018446744073709551616", 0, api.ErrForm},
		{"+1", 0, api.ErrForm},
		{"-1", 0, api.ErrForm},
		{"-0", 0, api.ErrForm},
		{" 1", 0, api.ErrForm},
		{"1 ", 0, api.ErrForm},
		{"1\n", 0, api.ErrForm},
		{"1_0", 0, api.ErrForm},
		{"0x1", 0, api.ErrForm},
		{"a", 0, api.ErrForm},
		{"1e3", 0, api.ErrForm},
		{"1.0", 0, api.ErrForm},
		{"1/", 0, api.ErrForm},
		{"1:", 0, api.ErrForm},
		{"\x00", 0, api.ErrForm},
		{"\xb1", 0, api.ErrForm},
		{"\u0661", 0, api.ErrForm},
		{"99999999999999999999999999x", 0, api.ErrForm},
		{"18446744073709551616", 0, api.ErrRange},
		{"18446744073709551620", 0, api.ErrRange},
		{"19446744073709551615", 0, api.ErrRange},
		{"20000000000000000000", 0, api.ErrRange},
		{"99999999999999999999", 0, api.ErrRange},
		{"36893488147419103232", 0, api.ErrRange},
		{"184467440737095516150", 0, api.ErrRange},
		{"1" + strings.Repeat("0", 5000), 0, api.ErrRange},
	} {
		if n, e := word.Number(c.s); n != c.n || e != c.e {
			t.Errorf("Number(%q): %d, %v, wanted %d, %v", c.s, n, e, c.n, c.e)
		}
	}
}

func TestWrittenIsRead(t *testing.T) { // P1.4
	for _, n := range numbers() {
		for size := 1; size <= 8; size++ {
			wanted := n
			if size < 8 {
				wanted = n % (1 << (8 * size))
			}
			if got, e := word.Get(word.Put(n, size)); got != wanted || e != api.OK {
				t.Errorf("Get of Put(%d, %d): %d, %v, wanted %d", n, size, got, e, wanted)
			}
		}
		for _, rest := range []string{"", "\x00", "\x80", "rest"} {
			s := word.Short(n)
			if got, k, e := word.Long(s + rest); got != n || k != len(s) || e != api.OK {
				t.Errorf("Long of Short(%d) and %x: %d, %d, %v", n, rest, got, k, e)
			}
		}
		if got, e := word.Number(word.Digits(n)); got != n || e != api.OK {
			t.Errorf("Number of Digits(%d): %d, %v", n, got, e)
		}
	}
}

// texts calls f with each text of up to n of the bytes.
func texts(bytes string, n int, f func(s string)) {
	f("")
	if n == 0 {
		return
	}
	for i := range len(bytes) {
		texts(bytes, n-1, func(s string) { f(bytes[i:i+1] + s) })
	}
}

func TestNothingElseIsRead(t *testing.T) { // P1.4
	texts("\x00\x01\x02\x7f\x80\x81\xff", 5, func(s string) {
		if n, e := word.Get(s); e == api.OK && word.Put(n, len(s)) != s {
			t.Errorf("Get(%x): %d, which isn't written so", s, n)
		}
		for _, ahead := range []string{"", "\x80\x80\x80\x80\x80\x80", "\xff\xff\xff\xff\xff\xff\xff\xff"} {
			all := ahead + s
			if n, k, e := word.Long(all); e == api.OK && sevens(n) != all[:k] {
				t.Errorf("Long(%x): %d of %d bytes, which isn't written so", all, n, k)
			}
		}
	})
	texts("0189+-_ x.", 4, func(s string) {
		for _, ahead := range []string{"", "1844674407370955161"} {
			all := ahead + s
			if n, e := word.Number(all); e == api.OK && strconv.FormatUint(n, 10) != all {
				t.Errorf("Number(%q): %d, which isn't written so", all, n)
			}
		}
	})
}
