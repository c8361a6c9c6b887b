package status

import (
	"strconv"
	"strings"

	"outrider/api"
	"outrider/finger"
	"outrider/proxy"
	"outrider/word"
)

// The lines, in their order.
const (
	atServing = iota
	atBusy
	atOpen
	atVersion
	atGen
	atEpoch
	atNow
	atPrint
	atGens
	atConns
	atHeld
	atSlots
	atAccepted
	atClosed
	atRefused
	atLost
	lines
)

const (
	yes, no   = "yes", "no"
	end       = "\n"      // of a line
	most      = 1<<64 - 1 // of a number
	mostCount = 1000      // of generations, connections, prints, slots
	mostErrno = 255
)

// words: what each line begins with.
var words = [lines]string{
	atServing:  "serving",
	atBusy:     "busy",
	atOpen:     "open",
	atVersion:  "version",
	atGen:      "gen",
	atEpoch:    "epoch",
	atNow:      "now",
	atPrint:    "print",
	atGens:     "gens",
	atConns:    "conns",
	atHeld:     "held",
	atSlots:    "slots",
	atAccepted: "accepted",
	atClosed:   "closed",
	atRefused:  "refused",
	atLost:     "lost",
}

// Lines: what is told.
func (s Status) Lines() []string {
	texts := [lines]string{
		atServing:  flag(s.Serving),
		atBusy:     flag(s.Busy),
		atOpen:     flag(s.Open),
		atVersion:  word.Digits(s.Version),
		atGen:      word.Digits(s.Gen),
		atEpoch:    word.Digits(s.Epoch),
		atNow:      word.Digits(s.Now),
		atPrint:    finger.Text(s.Print),
		atGens:     strconv.Itoa(s.Gens),
		atConns:    strconv.Itoa(s.Conns),
		atHeld:     strconv.Itoa(s.Held),
		atSlots:    strconv.Itoa(s.Slots),
		atAccepted: word.Digits(s.Counts.Accepted),
		atClosed:   word.Digits(s.Counts.Closed),
		atRefused:  word.Digits(s.Counts.Refused),
		atLost:     strconv.Itoa(int(s.Lost)),
	}
	var l []string
	for i, text := range texts {
		l = append(l, begin(i)+text)
	}
	return l
}

// Text: the lines.
func (s Status) Text() string { return strings.Join(s.Lines(), end) + end }

// Parse: the status of a text.
func Parse(t string) (Status, api.Errno) {
	var texts [lines]string
	var s Status
	var fine bool
	l := strings.SplitN(t, end, lines+1) // the last one is what stands behind all lines
	if len(l) <= lines || l[lines] != "" {
		goto syntax
	}
	for i := range texts {
		texts[i], fine = strings.CutPrefix(l[i], begin(i))
		if !fine {
			goto syntax
		}
	}
	s, fine = read(texts)
	if !fine {
		goto syntax
	}
	return s, api.OK
syntax:
	return Status{}, api.ErrSyntax
}

// read: the status that the lines' texts tell, and whether each is a text of its line.
func read(texts [lines]string) (Status, bool) {
	p, e := finger.Parse(texts[atPrint])
	fine := e == api.OK
	upTo := func(top uint64, i int) uint64 {
		n, e := word.Number(texts[i])
		fine = fine && e == api.OK && n <= top
		return n
	}
	number := func(i int) uint64 { return upTo(most, i) }
	count := func(i int) int { return int(upTo(mostCount, i)) }
	is := func(i int) bool {
		fine = fine && (texts[i] == yes || texts[i] == no)
		return texts[i] == yes
	}
	s := Status{
		Serving: is(atServing),
		Busy:    is(atBusy),
		Open:    is(atOpen),
		Version: number(atVersion),
		Gen:     number(atGen),
		Epoch:   number(atEpoch),
		Now:     number(atNow),
		Print:   p,
		Gens:    count(atGens),
		Conns:   count(atConns),
		Held:    count(atHeld),
		Slots:   count(atSlots),
		Counts:  proxy.Counts{Accepted: number(atAccepted), Closed: number(atClosed), Refused: number(atRefused)},
		Lost:    api.Errno(upTo(mostErrno, atLost)),
	}
	return s, fine
}

// begin: a line ahead of its text.
func begin(i int) string { return words[i] + " " }

// flag: yes or no.
func flag(is bool) string {
	if is {
		return yes
	}
	return no
}
