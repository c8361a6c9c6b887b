package script

import (
	"strings"

	"outrider/api"
	"outrider/machine"
	"outrider/word"
)

// What an event may tell, a bit each, in a line's order.
const (
	itsN = 1 << iota
	itsText
	itsHost
	itsPath
	itsNames
	itsSectors
)

const (
	none      = "." // bytes, and flags, of which there is none
	no, yes   = '0', '1'
	digits    = "0123456789abcdef"
	digitBits = 4
	lowDigit  = len(digits) - 1
)

// tells: what a line of each kind does.
var tells = [kinds]int{
	text:    itsText,
	tick:    itsN,
	ready:   itsN,
	died:    itsN,
	deliver: itsN,
	double:  itsN,
	lose:    itsN,
	accept:  itsN | itsText | itsHost | itsPath,
	shut:    itsN,
	clean:   itsText,
	fuse:    itsN,
	crash:   itsN | itsNames | itsSectors,
}

// reader is what is left of a line that is read.
type reader struct {
	tells int
	parts []string
	wrong bool
}

// has: what of an event isn't zero, or empty.
func has(e machine.Event) int {
	all := 0
	mark := func(what int, is bool) {
		if is {
			all |= what
		}
	}
	mark(itsN, e.N != 0)
	mark(itsText, e.Text != "")
	mark(itsHost, e.Host != "")
	mark(itsPath, e.Path != "")
	mark(itsNames, len(e.Names) > 0)
	mark(itsSectors, len(e.Sectors) > 0)
	return all
}

// write: the line of an event that has nothing but what its kind tells.
func write(e machine.Event) string {
	var s strings.Builder
	put := func(what int, part string) {
		if tells[e.Kind]&what != 0 {
			s.WriteString(blank)
			s.WriteString(part)
		}
	}
	s.WriteString(words[e.Kind])
	put(itsN, word.Digits(e.N))
	put(itsText, base16(e.Text))
	put(itsHost, base16(e.Host))
	put(itsPath, base16(e.Path))
	put(itsNames, flags(e.Names))
	i := 0
mask:
	if i < len(e.Sectors) {
		put(itsSectors, word.Digits(e.Sectors[i]))
		i++
		goto mask
	}
	return s.String()
}

// read: the event of a line, and whether it is one's.
func read(line string) (machine.Event, bool) {
	parts := strings.Split(line, blank)
	kind, is := named(parts[0])
	if !is {
		return machine.Event{}, false
	}
	r := reader{tells: tells[kind], parts: parts[1:]}
	e := machine.Event{
		Kind:  kind,
		N:     next(&r, itsN, number),
		Text:  next(&r, itsText, ofBase16),
		Host:  next(&r, itsHost, ofBase16),
		Path:  next(&r, itsPath, ofBase16),
		Names: next(&r, itsNames, ofFlags),
	}
mask:
	if r.tells&itsSectors != 0 && len(r.parts) > 0 {
		e.Sectors = append(e.Sectors, next(&r, itsSectors, number))
		goto mask
	}
	if r.wrong || len(r.parts) > 0 {
		return machine.Event{}, false
	}
	return e, true
}

// named: the kind of a word, if it is one's.
func named(s string) (int, bool) {
	for kind, w := range words {
		if w == s {
			return kind, true
		}
	}
	return 0, false
}

// next: what the next part is, where the line tells such a thing; else it takes no part.
func next[T any](r *reader, what int, of func(part string) (T, bool)) T {
	var x T
	is := false
	if r.tells&what == 0 {
		return x
	}
	if len(r.parts) > 0 {
		x, is = of(r.parts[0])
		r.parts = r.parts[1:]
	}
	r.wrong = r.wrong || !is
	return x
}

func number(part string) (uint64, bool) {
	n, e := word.Number(part)
	return n, e == api.OK
}

// base16: a text's bytes.
func base16(s string) string {
	if s == "" {
		return none
	}
	var part strings.Builder
	for i := range len(s) {
		part.WriteByte(digits[s[i]>>digitBits])
		part.WriteByte(digits[int(s[i])&lowDigit])
	}
	return part.String()
}

// ofBase16: the text of such bytes.
func ofBase16(part string) (string, bool) {
	if part == none {
		return "", true
	}
	if part == "" || len(part)%2 != 0 {
		return "", false
	}
	b := make([]byte, len(part)/2)
	for i := range len(part) {
		n := strings.IndexByte(digits, part[i])
		if n < 0 {
			return "", false
		}
		b[i/2] = b[i/2]<<digitBits | byte(n)
	}
	return string(b), true
}

// flags: as noughts and ones.
func flags(l []bool) string {
	if len(l) == 0 {
		return none
	}
	var part strings.Builder
	for _, is := range l {
		if is {
			part.WriteByte(yes)
		} else {
			part.WriteByte(no)
		}
	}
	return part.String()
}

// ofFlags: those that such a part is.
func ofFlags(part string) ([]bool, bool) {
	if part == none {
		return nil, true
	}
	var l []bool
	for i := range len(part) {
		if part[i] != no && part[i] != yes {
			return nil, false
		}
		l = append(l, part[i] == yes)
	}
	return l, len(l) > 0
}
