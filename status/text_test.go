package status_test

import (
	"math"
	"math/rand"
	"slices"
	"strconv"
	"strings"
	"testing"

	"outrider/api"
	"outrider/proxy"
	"outrider/status"
)

// some: one of which no two fields are alike.
var some = status.Status{
	Serving: true,
	Open:    true,
	Version: 11,
	Gen:     12,
	Epoch:   13,
	Now:     14,
	Print:   api.Print{0: 0xab, 7: 0x5c, 15: 0x0f},
	Gens:    15,
	Conns:   16,
	Held:    17,
	Slots:   18,
	Counts:  proxy.Counts{Accepted: 19, Closed: 20, Refused: 21},
	Lost:    22,
}

const someText = `serving yes
busy no
open yes
version 11
gen 12
epoch 13
now 14
print ab0000000000005c000000000000000f
gens 15
conns 16
held 17
slots 18
accepted 19
closed 20
refused 21
lost 22
`

const zeroText = `serving no
busy no
open no
version 0
gen 0
epoch 0
now 0
print 00000000000000000000000000000000
gens 0
conns 0
held 0
slots 0
accepted 0
closed 0
refused 0
lost 0
`

// greatest: one with the greatest numbers that are read again.
var greatest = status.Status{
	Serving: true, Busy: true, Open: true,
	Version: most, Gen: most, Epoch: most, Now: most,
	Print: api.Print{255, 255, 255, 255, 255, 255, 255, 255, 255, 255, 255, 255, 255, 255, 255, 255},
	Gens:  1000, Conns: 1000, Held: 1000, Slots: 1000,
	Counts: proxy.Counts{Accepted: most, Closed: most, Refused: most},
	Lost:   255,
}

func TestLinesAndText(t *testing.T) { // P29.2
	for _, x := range []struct {
		s    status.Status
		text string
	}{{some, someText}, {status.Status{}, zeroText}} {
		is(t, "Text", x.s.Text(), x.text)
		lists(t, "Lines", x.s.Lines(), strings.Split(strings.TrimSuffix(x.text, "\n"), "\n")...)
	}
	is(t, "Busy", status.Status{Busy: true}.Lines()[1], "busy yes")
	l := greatest.Lines()
	is(t, "a great number", l[3], "version 18446744073709551615")
	is(t, "a great print", l[7], "print "+strings.Repeat("f", 32))
	is(t, "a great number", l[14], "refused 18446744073709551615")
	is(t, "above what is read", status.Status{Gens: math.MaxInt}.Lines()[8], "gens 9223372036854775807")
	is(t, "above what is read", status.Status{Lost: 256}.Lines()[15], "lost 256")
}

func TestLinesAreNew(t *testing.T) { // the rule on memory
	l := some.Lines()
	clear(l)
	is(t, "Text", some.Text(), someText)
	is(t, "a line", some.Lines()[0], "serving yes")
}

func TestParse(t *testing.T) { // P29.2
	for _, s := range []status.Status{some, {}, greatest, {Lost: api.ErrNil}, {Busy: true}, {Open: true}, {Serving: true}} {
		reads(t, s)
	}
	got, e := status.Parse(someText)
	does(t, "Parse", e)
	is(t, "Parse", got, some)
}

// refuses holds a text to being none of a status.
func refuses(t *testing.T, what, text string) {
	t.Helper()
	s, e := status.Parse(text)
	is(t, what+": "+text, e, api.ErrSyntax)
	is(t, what+": beside the error", s, status.Status{})
}

func TestParseBounds(t *testing.T) { // P29.2: gens, conns, held, slots to 1000, lost to 255
	for _, n := range []int{1001, 1 << 31, 1 << 32, math.MaxInt, -1, math.MinInt} {
		for _, s := range []status.Status{{Gens: n}, {Conns: n}, {Held: n}, {Slots: n}, {Lost: api.Errno(n)}} {
			refuses(t, "a number", s.Text())
		}
	}
	refuses(t, "a number", status.Status{Lost: 256}.Text())
	refuses(t, "a number", status.Status{Lost: 1000}.Text())
	for _, s := range []status.Status{{Gens: 1000}, {Conns: 1000}, {Held: 1000}, {Slots: 1000}, {Lost: 255}} {
		reads(t, s)
	}
}

func TestParseOfOtherLines(t *testing.T) { // P29.2: ErrSyntax
	lines := strings.SplitAfter(strings.TrimSuffix(greatest.Text(), "\n"), "\n")
	lines[15] += "\n"
	for i, line := range lines {
		refuses(t, "a line less", strings.Join(slices.Delete(slices.Clone(lines), i, i+1), ""))
		refuses(t, "a line twice", strings.Join(slices.Insert(slices.Clone(lines), i, line), ""))
		refuses(t, "an empty line more", strings.Join(slices.Insert(slices.Clone(lines), i, "\n"), ""))
		refuses(t, "a half", strings.Join(lines[:i], ""))
		for k := range i {
			l := slices.Clone(lines)
			l[i], l[k] = l[k], l[i]
			refuses(t, "another order", strings.Join(l, ""))
		}
	}
	fine := greatest.Text()
	for what, text := range map[string]string{
		"nothing":             "",
		"a letter":            "x",
		"line's ends alone":   strings.Repeat("\n", 16),
		"without the last 10": strings.TrimSuffix(fine, "\n"),
		"a line's end more":   fine + "\n",
		"a rest":              fine + "x",
		"a rest with its end": fine + "x 1\n",
		"twice":               fine + fine,
		"a blank ahead":       " " + fine,
		"of Windows":          strings.ReplaceAll(fine, "\n", "\r\n"),
		"blanks doubled":      strings.ReplaceAll(fine, " ", "  "),
		"tabs":                strings.ReplaceAll(fine, " ", "\t"),
		"no blanks":           strings.ReplaceAll(fine, " ", ""),
		"capitals":            strings.ToUpper(fine),
		"words alone":         "serving\nbusy\nopen\nversion\ngen\nepoch\nnow\nprint\ngens\nconns\nheld\nslots\naccepted\nclosed\nrefused\nlost\n",
	} {
		refuses(t, what, text)
	}
}

func TestParseOfOtherTexts(t *testing.T) { // P29.2: ErrSyntax
	lines := zeroLines()
	with := func(i int, text string) string {
		l := slices.Clone(lines)
		word, _, _ := strings.Cut(l[i], " ")
		l[i] = word + " " + text
		return strings.Join(l, "\n") + "\n"
	}
	for i := range lines {
		for _, text := range []string{"", " ", "maybe", "Yes", "true", "yesno", "0 ", " 0", "00", "01", "+1", "-1", "-0", "1.0", "1e2", "0x1", "a", "1_0", "٣", "18446744073709551616", "99999999999999999999999"} {
			refuses(t, lines[i], with(i, text))
		}
	}
	for _, i := range []int{0, 1, 2} {
		for _, text := range []string{"0", "1", "y", "n", "NO", "yes ", "ye"} {
			refuses(t, lines[i], with(i, text))
		}
	}
	for _, i := range []int{3, 4, 5, 6, 8, 9, 10, 11, 12, 13, 14, 15} {
		refuses(t, lines[i], with(i, "yes"))
		refuses(t, lines[i], with(i, "no"))
		refuses(t, lines[i], with(i, strings.Repeat("0", 32)))
	}
	for _, text := range []string{strings.Repeat("0", 31), strings.Repeat("0", 33), strings.Repeat("0", 31) + "A", strings.Repeat("0", 31) + "g", strings.Repeat("0", 31) + " "} {
		refuses(t, "print", with(7, text))
	}
}

func zeroLines() []string { return strings.Split(strings.TrimSuffix(zeroText, "\n"), "\n") }

func TestParseOfEachByteTurned(t *testing.T) { // P29.2: the status of which that is the text, or none
	for _, fine := range []string{some.Text(), greatest.Text(), zeroText} {
		for i := range len(fine) {
			for n := range 256 {
				b := []byte(fine)
				b[i] = byte(n)
				if s, e := status.Parse(string(b)); e == api.OK {
					is(t, "what is read is written so", s.Text(), string(b))
				} else {
					is(t, "what is none", e, api.ErrSyntax)
					is(t, "beside the error", s, status.Status{})
				}
			}
		}
	}
}

func TestParseByChance(t *testing.T) { // P29.2 and P29.3
	r := rand.New(rand.NewSource(1))
	number := func() uint64 { return r.Uint64() >> r.Intn(65) }
	for range 5000 {
		s := status.Status{
			Serving: r.Intn(2) == 0, Busy: r.Intn(2) == 0, Open: r.Intn(2) == 0,
			Version: number(), Gen: number(), Epoch: number(), Now: number(),
			Gens: r.Intn(1001), Conns: r.Intn(1001), Held: r.Intn(1001), Slots: r.Intn(1001),
			Counts: proxy.Counts{Accepted: number(), Closed: number(), Refused: number()},
			Lost:   api.Errno(r.Intn(256)),
		}
		r.Read(s.Print[:])
		reads(t, s)
		is(t, "a number", s.Lines()[3], "version "+strconv.FormatUint(s.Version, 10))
	}
}
