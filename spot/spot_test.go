package spot_test

import (
	"cmp"
	"encoding/binary"
	"fmt"
	"math/rand/v2"
	"regexp"
	"slices"
	"strconv"
	"strings"
	"testing"

	"outrider/api"
	"outrider/spot"
)

// places: the ends of each number, and some between.
func places() []spot.Place {
	l := []spot.Place{{[4]byte{127, 0, 0, 1}, 80}, {[4]byte{1, 2, 3, 4}, 258}, {[4]byte{4, 3, 2, 1}, 513}, {[4]byte{10, 20, 30, 40}, 8080}}
	for _, port := range []uint16{0, 1, 255, 256, 65280, 65535} {
		for _, n := range []byte{0, 1, 9, 10, 99, 100, 128, 254, 255} {
			l = append(l, spot.Place{IP: [4]byte{n, n, n, n}, Port: port})
			for i := range 4 {
				p := spot.Place{Port: port}
				p.IP[i] = n
				l = append(l, p)
			}
		}
	}
	return l
}

// text: a place's, told by fmt.
func text(p spot.Place) string {
	return fmt.Sprintf("%d.%d.%d.%d:%d", p.IP[0], p.IP[1], p.IP[2], p.IP[3], p.Port)
}

const number = `(0|[1-9][0-9]{0,4})`

var form = regexp.MustCompile(`\A` + number + `\.` + number + `\.` + number + `\.` + number + `:` + number + `\z`)

// parse: what Parse answers, told by a pattern.
func parse(s string) (spot.Place, api.Errno) {
	m := form.FindStringSubmatch(s)
	if m == nil {
		return spot.Place{}, api.ErrForm
	}
	var p spot.Place
	for i := range 4 {
		n, _ := strconv.Atoi(m[1+i])
		if n > 255 {
			return spot.Place{}, api.ErrForm
		}
		p.IP[i] = byte(n)
	}
	port, _ := strconv.Atoi(m[5])
	if port < 1 || port > 65535 {
		return spot.Place{}, api.ErrForm
	}
	p.Port = uint16(port)
	return p, api.OK
}

func checkParse(t *testing.T, s string) {
	t.Helper()
	wanted, e := parse(s)
	if got, f := spot.Parse(s); got != wanted || f != e {
		t.Errorf("Parse(%q): %v, %v, wanted %v, %v", s, got, f, wanted, e)
	}
}

func TestParse(t *testing.T) { // P4.1
	for s, wanted := range map[string]spot.Place{
		"127.0.0.1:80":          {[4]byte{127, 0, 0, 1}, 80},
		"0.0.0.0:1":             {[4]byte{}, 1},
		"255.255.255.255:65535": {[4]byte{255, 255, 255, 255}, 65535},
		"1.2.3.4:256":           {[4]byte{1, 2, 3, 4}, 256},
		"10.20.30.40:8080":      {[4]byte{10, 20, 30, 40}, 8080},
	} {
		if got, e := spot.Parse(s); got != wanted || e != api.OK {
			t.Errorf("Parse(%q): %v, %v, wanted %v", s, got, e, wanted)
		}
	}
}

func TestParseOfNone(t *testing.T) { // P4.1
	for _, s := range []string{
		"", ".", ":", "...:", "1.2.3.4", "1.2.3.4:", ":80", "1.2.3:4", "1.2.3.4.5:6", "1:2", "1.2.3.4:5:6", "1.2.3.4:5:", "1.2.3.4:5.6",
		"256.0.0.1:1", "0.256.0.1:1", "0.0.256.1:1", "0.0.0.256:1", "1000.0.0.1:1", "4294967296.0.0.1:1", "18446744073709551616.0.0.1:1",
		"1.2.3.4:0", "1.2.3.4:65536", "1.2.3.4:65616", "1.2.3.4:131072", "1.2.3.4:4294967297", "1.2.3.4:18446744073709551617",
		"01.2.3.4:5", "1.02.3.4:5", "1.2.3.00:5", "1.2.3.4:05", "1.2.3.4:00", "1.2.3.4:080",
		"-1.2.3.4:5", "+1.2.3.4:5", "1.2.3.4:-5", "1.2.3.4:+5", " 1.2.3.4:5", "1.2.3.4:5 ", "1.2.3.4: 5", "1.2.3.4:5\n", "1. 2.3.4:5",
		".2.3.4:5", "1..3.4:5", "1.2..4:5", "1.2.3.:5", "1:2.3.4.5", "1.2:3.4.5", "1.2.3:4.5", "1.2.3:4:5", "1.2.3,4:5", "1.2.3.4;5",
		"a.b.c.d:80", "1.2.3.x:80", "1.2.3.4:x", "0x1.2.3.4:5", "localhost:80", "[::1]:80", "1.2.3.4:\xff", "\x00", "１.2.3.4:5",
		"127.0.0.1:80x", "x127.0.0.1:80", strings.Repeat("1.", 5000), "1.2.3.4:" + strings.Repeat("9", 5000),
	} {
		if got, e := spot.Parse(s); got != (spot.Place{}) || e != api.ErrForm {
			t.Errorf("Parse(%q): %v, %v, wanted none, %v", s, got, e, api.ErrForm)
		}
	}
}

func TestParseOfEachNumber(t *testing.T) { // P4.1
	for n := range 1100 {
		d := strconv.Itoa(n)
		for _, s := range []string{d + ".1.1.1:1", "1." + d + ".1.1:1", "1.1." + d + ".1:1", "1.1.1." + d + ":1"} {
			checkParse(t, s)
		}
	}
	for n := range 65536 + 300 {
		checkParse(t, "1.2.3.4:"+strconv.Itoa(n))
	}
}

func TestText(t *testing.T) { // P4.1
	for _, p := range places() {
		if got, wanted := p.Text(), text(p); got != wanted {
			t.Errorf("Text of %v: %q, wanted %q", p, got, wanted)
		}
	}
	if got := (spot.Place{IP: [4]byte{127, 0, 0, 1}, Port: 80}).Text(); got != "127.0.0.1:80" {
		t.Errorf("Text: %q", got)
	}
}

func TestBytes(t *testing.T) { // P4.1
	if got := (spot.Place{IP: [4]byte{1, 2, 3, 255}, Port: 258}).Bytes(); got != "\x01\x02\x03\xff\x01\x02" {
		t.Errorf("Bytes: %x", got)
	}
	for _, p := range places() {
		wanted := string(binary.BigEndian.AppendUint16(p.IP[:], p.Port))
		if got := p.Bytes(); got != wanted {
			t.Errorf("Bytes of %v: %x, wanted %x", p, got, wanted)
		}
	}
}

func TestOf(t *testing.T) { // P4.1
	for _, c := range []struct {
		s string
		p spot.Place
		e api.Errno
	}{
		{"\x01\x02\x03\xff\x01\x02", spot.Place{IP: [4]byte{1, 2, 3, 255}, Port: 258}, api.OK},
		{"\x00\x00\x00\x00\x00\x01", spot.Place{Port: 1}, api.OK},
		{"\x00\x00\x00\x00\x01\x00", spot.Place{Port: 256}, api.OK},
		{"\xff\xff\xff\xff\xff\xff", spot.Place{IP: [4]byte{255, 255, 255, 255}, Port: 65535}, api.OK},
		{"\x01\x02\x03\x04\x00\x00", spot.Place{}, api.ErrForm},
		{"\x00\x00\x00\x00\x00\x00", spot.Place{}, api.ErrForm},
		{"", spot.Place{}, api.ErrForm},
		{"\x01", spot.Place{}, api.ErrForm},
		{"\x01\x02\x03\x04", spot.Place{}, api.ErrForm},
		{"\x01\x02\x03\x04\x05", spot.Place{}, api.ErrForm},
		{"\x01\x02\x03\x04\x05\x06\x07", spot.Place{}, api.ErrForm},
		{"\x00\x01\x02\x03\x04\x05\x06", spot.Place{}, api.ErrForm},
		{"127.0.0.1:80", spot.Place{}, api.ErrForm},
		{strings.Repeat("\x01", 5000), spot.Place{}, api.ErrForm},
	} {
		if got, e := spot.Of(c.s); got != c.p || e != c.e {
			t.Errorf("Of(%x): %v, %v, wanted %v, %v", c.s, got, e, c.p, c.e)
		}
	}
}

func TestAny(t *testing.T) { // P4.2
	for _, p := range places() {
		wanted := p.IP[0] == 0 && p.IP[1] == 0 && p.IP[2] == 0 && p.IP[3] == 0
		if got := p.Any(); got != wanted {
			t.Errorf("Any of %v: %v, wanted %v", p, got, wanted)
		}
	}
}

func TestMeet(t *testing.T) { // P4.2
	at := func(a, b, c, d byte, port uint16) spot.Place { return spot.Place{IP: [4]byte{a, b, c, d}, Port: port} }
	for _, c := range []struct {
		a, b   spot.Place
		wanted bool
	}{
		{at(1, 2, 3, 4, 80), at(1, 2, 3, 4, 80), true},
		{at(1, 2, 3, 4, 80), at(0, 0, 0, 0, 80), true},
		{at(0, 0, 0, 0, 80), at(0, 0, 0, 0, 80), true},
		{at(1, 2, 3, 4, 0), at(0, 0, 0, 0, 0), true},
		{at(1, 2, 3, 4, 80), at(1, 2, 3, 5, 80), false},
		{at(1, 2, 3, 4, 80), at(2, 2, 3, 4, 80), false},
		{at(1, 2, 3, 4, 80), at(4, 3, 2, 1, 80), false},
		{at(1, 2, 3, 4, 80), at(0, 0, 0, 1, 80), false},
		{at(1, 2, 3, 4, 80), at(1, 0, 0, 0, 80), false},
		{at(1, 2, 3, 4, 80), at(255, 255, 255, 255, 80), false},
		{at(1, 2, 3, 4, 80), at(1, 2, 3, 4, 81), false},
		{at(1, 2, 3, 4, 80), at(0, 0, 0, 0, 81), false},
		{at(0, 0, 0, 0, 80), at(0, 0, 0, 0, 0), false},
		{at(1, 2, 3, 4, 1), at(1, 2, 3, 4, 257), false},
	} {
		if spot.Meet(c.a, c.b) != c.wanted || spot.Meet(c.b, c.a) != c.wanted {
			t.Errorf("Meet(%v, %v): %v, and turned about %v, wanted %v", c.a, c.b, spot.Meet(c.a, c.b), spot.Meet(c.b, c.a), c.wanted)
		}
	}
}

func TestCmp(t *testing.T) { // P4.2
	for _, a := range places() {
		for _, b := range places() {
			wanted := slices.Compare(a.IP[:], b.IP[:])
			if wanted == 0 {
				wanted = cmp.Compare(a.Port, b.Port)
			}
			if got := spot.Cmp(a, b); got != wanted {
				t.Errorf("Cmp(%v, %v): %d, wanted %d", a, b, got, wanted)
			}
		}
	}
	ahead, behind := spot.Place{IP: [4]byte{9, 0, 0, 0}, Port: 65535}, spot.Place{IP: [4]byte{10, 0, 0, 0}, Port: 1}
	if spot.Cmp(ahead, behind) != -1 || spot.Cmp(behind, ahead) != 1 || spot.Cmp(ahead, ahead) != 0 {
		t.Error("Cmp isn't number by number, the port last")
	}
}

func TestWrittenIsRead(t *testing.T) { // P4.3
	for _, p := range places() {
		wanted, e := p, api.OK
		if p.Port == 0 { // Parse and Of say that such a one isn't read
			wanted, e = spot.Place{}, api.ErrForm
		}
		if got, f := spot.Parse(p.Text()); got != wanted || f != e {
			t.Errorf("Parse of %v's text: %v, %v", p, got, f)
		}
		if got, f := spot.Of(p.Bytes()); got != wanted || f != e {
			t.Errorf("Of of %v's bytes: %v, %v", p, got, f)
		}
	}
}

func TestReadIsWritten(t *testing.T) { // P4.3, P1
	r := rand.New(rand.NewPCG(4, 3))
	for range 20000 {
		s := []byte(text(places()[r.IntN(40)]))
		for range r.IntN(3) {
			s[r.IntN(len(s))] = "0123456789.: \xff"[r.IntN(14)]
		}
		checkParse(t, string(s))
		if p, e := spot.Parse(string(s)); e == api.OK && p.Text() != string(s) {
			t.Errorf("Parse(%q): %v, which isn't written so", s, p)
		}
		if p, e := spot.Of(string(s[:6])); e == api.OK && p.Bytes() != string(s[:6]) {
			t.Errorf("Of(%x): %v, which isn't written so", s[:6], p)
		}
	}
}
