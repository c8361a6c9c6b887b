package script_test

import (
	"strings"
	"testing"

	"outrider/api"
	"outrider/machine"
	"outrider/script"
)

func TestParse(t *testing.T) { // P31.2
	parses(t, "")
	parses(t, "lost\n", of(lost, 0))
	parses(t, "lost\ntake\nlost\n", of(lost, 0), of(take, 0), of(lost, 0))
	parses(t, "text 6162\ntick 7\naccept 3 78 68 .\ncrash 5 10 7\n",
		machine.Event{Text: "ab"}, of(tick, 7), comes(3, "x", "h", ""), machine.Crash(5, []bool{true, false}, []uint64{7}))
}

func TestParseOfMuch(t *testing.T) { // P31.2: ErrLong at line 0, where there are more than 20000 bytes
	for _, text := range []string{
		strings.Repeat("x", 20001),
		strings.Repeat("lost\n", 4000) + "\n",
		strings.Repeat("\n", 20001),
		"text " + strings.Repeat("61", 9998) + "\n",
		strings.Repeat("lost\n", 1<<18),
		"x\n" + strings.Repeat("lost\n", 4000),
	} {
		l, line, e := script.Parse(text)
		is(t, "Parse", e, api.ErrLong)
		is(t, "the line", line, 0)
		is(t, "events", len(l), 0)
	}
	l := make([]machine.Event, 4000)
	for i := range l {
		l[i] = of(lost, 0)
	}
	parses(t, strings.Repeat("lost\n", 4000), l...)
	refuses(t, strings.Repeat("lost\n", 3999)+"lose\n", 4000)
	refuses(t, strings.Repeat("x", 20000), 1)
	refuses(t, strings.Repeat("\n", 20000), 1)
	parses(t, "text "+strings.Repeat("61", 9997)+"\n", machine.Event{Text: strings.Repeat("a", 9997)})
	refuses(t, "text "+strings.Repeat("61", 9997)+"6", 1)
	parses(t, "crash 0 . 7"+strings.Repeat(" 0", 9994)+"\n", machine.Crash(0, nil, append([]uint64{7}, make([]uint64, 9994)...)))
}

func TestParseOfOtherWords(t *testing.T) { // P31.2: ErrSyntax
	for _, line := range []string{
		"", " ", ".", "0", "x", "-", "\r", "\t", "\x00", "\xff",
		"Tick 1", "TICK 1", "tic 1", "ticks 1", "tick1", " tick 1", "\ttick 1", "#tick 1", "tick\t1", "tick,1", "tick=1",
		"Lost", "los", "loss", "losts", " lost", "lost ", "lost  ", "lost\r", "lost 1", "lost 0", "lost .", "lost lost", "lose", "lost\x00",
		"take ", "take 0", "take .", "take 1", "takes", "took",
		"event 1", "close 1", "clear .", "message .", "crush 1 .", "Crash 1 .", "14 1", "1 1",
	} {
		refuses(t, line+"\n", 1)
		refuses(t, line+"\nlost\n", 1)
		refuses(t, "lost\ntick 1\n"+line+"\nx\n", 3)
	}
}

func TestParseOfOtherNumbers(t *testing.T) { // P31.2: ErrSyntax
	bad := []string{"", " ", ".", "-", "+", "00", "01", "007", "-1", "-0", "+1", "1.", "1.0", "1e3", "0x1", "1_0", "a", "1a", "a1", "1 ", " 1", "1 1", "1 0", "1\r", "1\t", "٣", "18446744073709551616", "28446744073709551615", "99999999999999999999999999", "1,2", "1\x00"}
	for _, n := range bad {
		for _, word := range []string{"tick", "ready", "died", "deliver", "double", "lose", "shut", "fuse"} {
			refuses(t, word+" "+n+"\n", 1)
			refuses(t, word+"\n", 1)
		}
		refuses(t, "accept "+n+" 78 78 78\n", 1)
		refuses(t, "crash "+n+" 1x\n", 1)
	}
	for _, n := range bad {
		if n == "1 1" || n == "1 0" { // two masks
			parses(t, "crash 1 . "+n+"\n", machine.Crash(1, nil, []uint64{1, uint64(n[2] - '0')}))
			continue
		}
		refuses(t, "crash "+n+" .\n", 1)
		refuses(t, "crash 1 . "+n+"\n", 1)
		refuses(t, "crash 1 . 5 "+n+"\n", 1)
		refuses(t, "crash 1 . "+n+" 5\n", 1)
	}
}

func TestParseOfOtherTexts(t *testing.T) { // P31.2: ErrSyntax
	for _, x := range []string{"", " ", "..", "6", "616", "61626", "6A", "A6", "FF", "6g", "g6", "0x61", "61.", ".61", "-61", "61 ", " 61", "61 .", "61 61", "6 1", "/0", ":0", "`0", "0/", "0:", "0`", "0G", "61\r", "61\x00", "\xff\xff", "é"} {
		refuses(t, "text "+x+"\n", 1)
		refuses(t, "clean "+x+"\n", 1)
		refuses(t, "accept 1 "+x+" 61 61\n", 1)
		refuses(t, "accept 1 61 "+x+" 61\n", 1)
		refuses(t, "accept 1 61 61 "+x+"\n", 1)
	}
	for _, line := range []string{"text", "clean", "accept", "accept 1", "accept 1 61", "accept 1 61 61", "accept 61 61 61", "accept . 61 61 61", "accept 1 61 61 61 61", "accept 1 61 61 61 ", "accept  1 61 61 61"} {
		refuses(t, line+"\n", 1)
	}
}

func TestParseOfOtherFlags(t *testing.T) { // P31.2: ErrSyntax
	for _, x := range []string{"", " ", "..", "2", "/", "12", "21", "0.", ".0", "10.", "1x", "x1", "-1", "true", "1 ", " 1", "1\r", "1,0", "1\x00", "0a"} {
		refuses(t, "crash 5 "+x+"\n", 1)
		refuses(t, "crash 5 "+x+" 7x\n", 1)
		refuses(t, "crash 5 "+x+" 07\n", 1)
	}
	for _, x := range []string{"", "..", "2", "/", "12", "21", "0.", ".0", "1x", "x1", "-1", "true", "1,0"} {
		refuses(t, "crash 5 "+x+" 7\n", 1)
	}
	for _, line := range []string{"crash", "crash ", "crash 5", "crash 5 ", "crash .", "crash 5 . ", "crash 5 1 ", "crash 5 1 7 ", "crash 5  7", "crash 5 1  7", "crash 5 1 7  8", "crash  5 1"} {
		refuses(t, line+"\n", 1)
	}
}

func TestParseOfEnds(t *testing.T) { // P31.2: ErrSyntax, where a line has no byte 10; the first such line
	refuses(t, "tick 1", 1)
	refuses(t, "lost", 1)
	refuses(t, "\n", 1)
	refuses(t, "\nlost\n", 1)
	refuses(t, "lost\n\n", 2)
	refuses(t, "lost\n\nlost\n", 2)
	refuses(t, "lost\nlost", 2)
	refuses(t, "lost\ntick -1\n", 2)
	refuses(t, "x\ny\nz", 1)
	refuses(t, "lost\ny\nz", 2)
	refuses(t, "lost\nlost\nz", 3)
	refuses(t, "lost\r\nlost\r\n", 1)
	refuses(t, "lost\rlost\n", 1)
	refuses(t, "lost\x00", 1)
	text := "text 6162\nlost\ntick 18446744073709551615\naccept 3 78 68 .\ntake\ncrash 5 101 7 19\n"
	for i := range len(text) {
		begun := strings.Count(text[:i], "\n")
		if i == 0 || text[i-1] == '\n' {
			l, line, e := script.Parse(text[:i])
			is(t, "Parse of whole lines", e, api.OK)
			is(t, "the line", line, 0)
			is(t, "events", len(l), begun)
			continue
		}
		refuses(t, text[:i], begun+1)
	}
}

func TestRun(t *testing.T) { // P31.2
	m := fresh(t, 1)
	runs(t, m, nil)
	runs(t, m, []machine.Event{of(take, 0)}, ". 0 12")
	runs(t, m, []machine.Event{of(tick, 0), of(tick, 1), of(ready, 1)}, ". 0 0", ". 0 0", ". 0 12")
	x := fresh(t, 1)
	x.Do(of(tick, 0))
	hello := x.Do(of(take, 0))
	runs(t, m, []machine.Event{of(take, 0), of(take, 0)}, told(hello), ". 0 12")
	is(t, "the beginning of what it said", told(hello)[:8], "4f460101") // OF, 1, a Subscribe
	l := []machine.Event{offer(1, 1, on(81)), offer(1, 1, on(81)), of(ready, 1), comes(7, shared, "a.b", "/"), comes(7, shared, "a.b", "/"), comes(8, "x", "", ""), of(shut, 7)}
	runs(t, m, l, ". 0 0", ". 0 11", ". 0 0", ". 1 0", ". 0 11", ". 0 4", ". 0 0")
	is(t, "it serves", m.Status().Version, 1081)
	is(t, "what was done", m.Status().Counts.Closed, 1)
	runs(t, m, []machine.Event{of(fuse, 0), offer(1, 2, on(82)), of(tick, 1), machine.Crash(0, nil, nil), machine.Crash(forever, []bool{true}, []uint64{most})}, ". 0 0", ". 0 15", ". 0 22", ". 0 0", ". 0 0")
	is(t, "Up", m.Up(), true)
}

func TestRunErrors(t *testing.T) { // P31.2: Parse's error, and nothing is done
	for text, wanted := range map[string]api.Errno{
		"x":                                     api.ErrSyntax,
		"tick 7\ntick 8":                        api.ErrSyntax,
		"tick 7\ntick 8\ntick -1\n":             api.ErrSyntax,
		strings.Repeat("tick 7\n", 2858):        api.ErrLong,
		"tick 7\n" + strings.Repeat("x", 20000): api.ErrLong,
	} {
		m := fresh(t, 1)
		l, e := script.Run(m, text)
		is(t, "Run", e, wanted)
		is(t, "answers", len(l), 0)
		is(t, "is anything done", m.Status().Now != 0 || m.Status().Open, false)
		l, e = script.Run(nil, text)
		is(t, "Run of nil", e, wanted)
		is(t, "answers of nil", len(l), 0)
	}
	m := fresh(t, 1)
	l, e := script.Run(m, strings.Repeat("tick 7\n", 2857))
	is(t, "Run", e, api.OK)
	is(t, "answers", len(l), 2857)
	is(t, "Now", m.Status().Now, 7*2857)
}

func TestRunOfNil(t *testing.T) { // P31.2: what a nil machine answers, ErrNil
	runs(t, nil, []machine.Event{of(tick, 1), {}, of(lost, 0), machine.Crash(1, []bool{true}, nil)}, ". 0 1", ". 0 1", ". 0 1", ". 0 1")
	runs(t, nil, nil)
}
