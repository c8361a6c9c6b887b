package script_test

import (
	"math"
	"strings"
	"testing"
	"unsafe"

	"outrider/api"
	"outrider/machine"
	"outrider/script"
)

func TestWords(t *testing.T) { // P31.1
	is(t, "Words", script.Words(), names)
	w := script.Words()
	clear(w[:])
	is(t, "Words, once more", script.Words(), names)
	for kind, word := range script.Words() {
		s, e := script.Line(machine.Event{Kind: kind})
		is(t, "Line", e, api.OK)
		first, _, _ := strings.Cut(s, " ")
		is(t, "its word", first, word)
	}
}

// all: every byte, by rising numbers, and all of them in base 16.
func all() (string, string) {
	const digits = "0123456789abcdef"
	var s, x []byte
	for n := range 256 {
		s = append(s, byte(n))
		x = append(x, digits[n/16], digits[n%16])
	}
	return string(s), string(x)
}

// someLines: events, and their lines by hand.
func someLines() map[string]machine.Event {
	bytes, digits := all()
	return map[string]machine.Event{
		"text 6162":                    {Text: "ab"},
		"text .":                       {},
		"text 00":                      {Text: "\x00"},
		"text 2e":                      {Text: "."},
		"text 0a":                      {Text: "\n"},
		"text 20":                      {Text: " "},
		"text c3a4ff":                  {Text: "ä\xff"},
		"text " + digits:               {Text: bytes},
		"tick 7":                       of(tick, 7),
		"tick 0":                       of(tick, 0),
		"tick 18446744073709551615":    of(tick, most),
		"lost":                         of(lost, 0),
		"ready 1":                      of(ready, 1),
		"died 10":                      of(died, 10),
		"deliver 64":                   of(deliver, 64),
		"double 2147483648":            of(double, 1<<31),
		"lose 9223372036854775808":     of(lose, 1<<63),
		"accept 3 78 68 .":             comes(3, "x", "h", ""),
		"accept 0 . . .":               comes(0, "", "", ""),
		"accept 5 . . 2f":              comes(5, "", "", "/"),
		"accept 5 . 2f .":              comes(5, "", "/", ""),
		"accept 12 313a32 612e62 2f":   comes(12, "1:2", "a.b", "/"),
		"shut 99":                      of(shut, 99),
		"take":                         of(take, 0),
		"clean .":                      of(clean, 0),
		"clean 30":                     {Kind: clean, Text: "0"},
		"fuse 4294967296":              of(fuse, 1<<32),
		"crash 0 .":                    of(crash, 0),
		"crash 5 101 7":                machine.Crash(5, []bool{true, false, true}, []uint64{7}),
		"crash 5 . 7":                  machine.Crash(5, nil, []uint64{7}),
		"crash 5 0":                    machine.Crash(5, []bool{false}, nil),
		"crash 5 1":                    machine.Crash(5, []bool{true}, nil),
		"crash 5 00 0":                 machine.Crash(5, []bool{false, false}, []uint64{0}),
		"crash 5 01 0 0 1":             machine.Crash(5, []bool{false, true}, []uint64{0, 0, 1}),
		"crash 5 . 1 1":                machine.Crash(5, nil, []uint64{1, 1}),
		"crash 18446744073709551615 .": machine.Crash(most, nil, nil),
		"crash 1 10 18446744073709551615 0 9223372036854775808": machine.Crash(1, []bool{true, false}, []uint64{most, 0, 1 << 63}),
	}
}

func TestLine(t *testing.T) { // P31.1; the example
	for line, x := range someLines() {
		s, e := script.Line(x)
		is(t, "Line", e, api.OK)
		is(t, "Line", s, line)
		is(t, "by hand", written(x), line)
		prints(t, line+"\n", x)
		parses(t, line+"\n", x)
	}
}

func TestLineOfNoKind(t *testing.T) { // P31.1: ErrKind, ahead of ErrForm
	for _, kind := range []int{-1, 14, 15, 255, 256, 1 << 32, 1<<32 + 1, math.MinInt, math.MaxInt} {
		for _, x := range []machine.Event{{}, {N: 1}, {Text: "x", Host: "y", Path: "z"}, {Names: []bool{true}}, {Sectors: []uint64{1}}} {
			x.Kind = kind
			s, e := script.Line(x)
			is(t, "Line", e, api.ErrKind)
			is(t, "beside the error", s, "")
		}
	}
}

// fields: events of the kind 0 that each have one thing, by its name.
func fields() map[string]machine.Event {
	return map[string]machine.Event{
		"N":       {N: 1},
		"Text":    {Text: "x"},
		"Host":    {Host: "x"},
		"Path":    {Path: "x"},
		"Names":   {Names: []bool{false}},
		"Sectors": {Sectors: []uint64{0}},
	}
}

// tells: what a line of each kind does.
var tells = [14]string{"Text", "N", "", "N", "N", "N", "N", "N", "N Text Host Path", "N", "", "Text", "N", "N Names Sectors"}

func TestLineOfWhatItDoesNotTell(t *testing.T) { // P31.1: ErrForm, where something that it doesn't tell isn't zero, or empty
	done := 0
	for kind, own := range tells {
		for name, x := range fields() {
			wanted := api.ErrForm
			for _, field := range strings.Fields(own) {
				if field == name {
					wanted = api.OK
					done++
				}
			}
			x.Kind = kind
			s, e := script.Line(x)
			is(t, names[kind]+" with "+name, e, wanted)
			is(t, names[kind]+" with "+name+": is there a line", s != "", wanted == api.OK)
		}
		s, e := script.Line(machine.Event{Kind: kind, Names: []bool{}, Sectors: []uint64{}})
		is(t, names[kind]+" with empty lists", e, api.OK)
		is(t, names[kind]+" with empty lists", s, written(machine.Event{Kind: kind}))
	}
	is(t, "what is told", done, 17)
	for _, x := range []machine.Event{
		{Kind: lost, N: most}, {Kind: take, N: 1 << 63}, {Kind: take, N: 1 << 32}, {Text: "x", N: 1 << 32},
		{Text: "x", Host: "\x00"}, {Kind: tick, N: 1, Text: "\x00"}, {Kind: crash, N: 1, Path: "."},
		{Kind: accept, N: 1, Text: "x", Names: []bool{true, true}},
	} {
		s, e := script.Line(x)
		is(t, "Line", e, api.ErrForm)
		is(t, "beside the error", s, "")
	}
}

func TestPrint(t *testing.T) { // P31.1: all lines, a byte 10 behind each
	prints(t, "")
	prints(t, "lost\n", of(lost, 0))
	prints(t, "lost\nlost\ntick 1\ntext .\n", of(lost, 0), of(lost, 0), of(tick, 1), machine.Event{})
	var l []machine.Event
	wanted := ""
	for line, x := range someLines() {
		l = append(l, x)
		wanted += line + "\n"
	}
	prints(t, wanted, l...)
	parses(t, wanted, l...)
}

func TestPrintErrors(t *testing.T) { // P31.1: the first error
	fine, form, kind := of(tick, 1), of(lost, 1), of(14, 0)
	for _, x := range []struct {
		l      []machine.Event
		wanted api.Errno
	}{
		{[]machine.Event{form}, api.ErrForm},
		{[]machine.Event{kind}, api.ErrKind},
		{[]machine.Event{fine, fine, form}, api.ErrForm},
		{[]machine.Event{form, fine, fine}, api.ErrForm},
		{[]machine.Event{fine, form, fine, kind}, api.ErrForm},
		{[]machine.Event{fine, kind, form, fine}, api.ErrKind},
	} {
		s, e := script.Print(x.l...)
		is(t, "Print", e, x.wanted)
		is(t, "beside the error", s, "")
	}
}

func TestPrintOfMuch(t *testing.T) { // P31.1: all lines, those too that are more than may be parsed
	l := make([]machine.Event, api.MaxSource)
	for i := range l {
		l[i] = of(lost, 0)
	}
	prints(t, strings.Repeat("lost\n", len(l)), l...)
	long := strings.Repeat("x", 1<<20)
	prints(t, "text "+strings.Repeat("78", len(long))+"\n", machine.Event{Text: long})
	prints(t, "crash 0 "+strings.Repeat("0", 1<<16)+strings.Repeat(" 0", 1<<16)+"\n", machine.Crash(0, make([]bool, 1<<16), make([]uint64, 1<<16)))
}

func TestMemory(t *testing.T) { // the rule on memory
	raw := []byte("accept 1 61 62 63\ntext 78\ncrash 5 101 7 8\n")
	kept := string(raw)
	l, _, e := script.Parse(unsafe.String(&raw[0], len(raw)))
	is(t, "Parse", e, api.OK)
	is(t, "what was handed in", string(raw), kept)
	clear(raw)
	prints(t, kept, l...)
	once, _, _ := script.Parse(kept)
	clear(once[2].Names)
	clear(once[2].Sectors)
	clear(once)
	parses(t, kept, l...)

	names, sectors := []bool{true, false, true, false}, []uint64{1, 2, 3, 4}
	text := []byte("xyz")
	lines := []machine.Event{machine.Event{Kind: crash, Names: names[:2], Sectors: sectors[:2]}, {Text: unsafe.String(&text[0], len(text))}}
	s, e := script.Print(lines...)
	is(t, "Print", e, api.OK)
	one, e := script.Line(lines[0])
	is(t, "Line", e, api.OK)
	lists(t, "Names", names, true, false, true, false)
	lists(t, "Sectors", sectors, 1, 2, 3, 4)
	is(t, "Text", string(text), "xyz")
	clear(text)
	clear(names)
	is(t, "Print", s, "crash 0 10 1 2\ntext 78797a\n")
	is(t, "Line", one, "crash 0 10 1 2")
}
