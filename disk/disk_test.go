package disk_test

import (
	"math"
	"slices"
	"strconv"
	"strings"
	"testing"
	"unsafe"

	"outrider/api"
	"outrider/disk"
)

const (
	all  = uint64(math.MaxUint64) // a mask: all that there was
	long = uint64(1) << 63        // a mask: as many bytes as there were, all of them as they were sure
)

// fresh: an empty disk.
func fresh(t *testing.T, room int) *disk.Disk {
	t.Helper()
	d, e := disk.New(room)
	if d == nil || e != api.OK {
		t.Fatalf("New of %d: %v", room, e)
	}
	return d
}

// done: a test ends, if one of what was asked wasn't done.
func done(t *testing.T, what ...api.Errno) {
	t.Helper()
	for i, e := range what {
		if e != api.OK {
			t.Fatalf("step %d: %v", i, e)
		}
	}
}

// is holds an error against the one that is wanted.
func is(t *testing.T, what string, got, wanted api.Errno) {
	t.Helper()
	if got != wanted {
		t.Errorf("%s: %v, wanted %v", what, got, wanted)
	}
}

// state: all that can be read of a disk: its files, how many bytes, how many turns.
func state(t *testing.T, d *disk.Disk) string {
	t.Helper()
	var b strings.Builder
	for _, n := range d.Names() {
		s, e := d.Read(n)
		is(t, "Read of "+n, e, api.OK)
		b.WriteString(n + "=" + strconv.Quote(s) + " ")
	}
	return b.String() + strconv.Itoa(d.Used()) + " " + strconv.Itoa(d.Pending())
}

// has holds a disk's state against the one that is wanted.
func has(t *testing.T, what string, d *disk.Disk, wanted string) {
	t.Helper()
	if got := state(t, d); got != wanted {
		t.Errorf("%s: %s, wanted %s", what, got, wanted)
	}
}

// kept: a disk with files that are sure, name and text in turn.
func kept(t *testing.T, files ...string) *disk.Disk {
	t.Helper()
	d := fresh(t, api.MaxDisk)
	for i := 0; i < len(files); i += 2 {
		done(t, d.Write(files[i], files[i+1]), d.Sync(files[i]))
	}
	done(t, d.SyncDir())
	return d
}

func TestNew(t *testing.T) { // P13.1
	for _, room := range []int{-1, 1<<16 + 1, math.MinInt, math.MaxInt} {
		if d, e := disk.New(room); d != nil || e != api.ErrRange {
			t.Errorf("New of %d: %v, %v", room, d, e)
		}
	}
	for _, room := range []int{0, 1, 1 << 16} {
		d := fresh(t, room)
		has(t, "a new disk", d, "0 0")
		if d.Down() || d.Steps() != 0 {
			t.Errorf("a new disk: %v, %d steps", d.Down(), d.Steps())
		}
	}
}

func TestNil(t *testing.T) { // P13.1, P13.2
	var d *disk.Disk
	for i, e := range []api.Errno{d.Write("a", "x"), d.Write("", "x"), d.Sync("a"), d.Rename("a", "b"), d.Rename("a", "a"), d.Remove("a"), d.SyncDir()} {
		is(t, "a nil disk's call "+strconv.Itoa(i), e, api.ErrNil)
	}
	if s, e := d.Read("a"); s != "" || e != api.ErrNil {
		t.Errorf("a nil disk's Read: %q, %v", s, e)
	}
	d.Fuse(3)
	d.Crash([]bool{true}, []uint64{1})
	if len(d.Names()) != 0 || d.Used() != 0 || d.Down() || d.Steps() != 0 || d.Pending() != 0 {
		t.Error("a nil disk has something")
	}
}

func TestWrite(t *testing.T) { // P13.1
	d := fresh(t, 10)
	done(t, d.Write("a", "12345"))
	has(t, "one file", d, `a="12345" 5 1`)
	done(t, d.Write("a", "67"))
	has(t, "written again, those bytes alone", d, `a="67" 2 1`)
	done(t, d.Write("\x00\xff/", ""))
	has(t, "a name of any bytes", d, "\x00\xff/=\"\" a=\"67\" 2 2")
	if d.Steps() != 3 {
		t.Errorf("%d steps", d.Steps())
	}
	name := strings.Repeat("n", 32)
	is(t, "a name of 32 bytes", d.Write(name, ""), api.OK)
	is(t, "a name of 33 bytes", d.Write(name+"n", ""), api.ErrArg)
	is(t, "no name", d.Write("", ""), api.ErrArg)
	is(t, "a long name", d.Write(strings.Repeat("n", 1<<20), ""), api.ErrArg)
	if d.Steps() != 4 || d.Pending() != 3 {
		t.Errorf("%d steps, %d turns: what is refused is a step", d.Steps(), d.Pending())
	}
}

func TestWriteFull(t *testing.T) { // P13.1: at most 16 files
	d := fresh(t, 100)
	for i := range 16 {
		done(t, d.Write(string(rune('a'+i)), "x"))
	}
	is(t, "the 17th", d.Write("z", "x"), api.ErrFull)
	is(t, "the 17th, and no name", d.Write("", "x"), api.ErrArg)
	is(t, "the 17th, and too long", d.Write("z", strings.Repeat("x", 1000)), api.ErrFull)
	is(t, "one that is there", d.Write("a", "y"), api.OK)
	done(t, d.Rename("a", "b"))
	is(t, "where one is gone under another", d.Write("z", ""), api.OK)
	is(t, "the 17th again", d.Write("y", ""), api.ErrFull)
	done(t, d.Remove("z"))
	is(t, "where one is removed", d.Write("y", ""), api.OK)
	if n := len(d.Names()); n != 16 {
		t.Errorf("%d files", n)
	}
}

func TestWriteSpace(t *testing.T) { // P13.1
	d := fresh(t, 10)
	done(t, d.Write("a", "123456"))
	is(t, "one byte too many", d.Write("b", "12345"), api.ErrSpace)
	is(t, "one byte too many in one file", d.Write("a", "12345678901"), api.ErrSpace)
	has(t, "what is refused", d, `a="123456" 6 1`)
	is(t, "as many as there is room", d.Write("b", "1234"), api.OK)
	is(t, "nothing more", d.Write("c", ""), api.OK)
	is(t, "one more", d.Write("c", "1"), api.ErrSpace)
	is(t, "in place of others", d.Write("a", "abcdef"), api.OK)
	done(t, d.Rename("a", "b"))
	has(t, "what is gone has no bytes", d, `b="abcdef" c="" 6 4`)
	done(t, d.Remove("b"))
	is(t, "all the room again", d.Write("c", "1234567890"), api.OK)
	is(t, "no name, and no room", d.Write("", "12345678901"), api.ErrArg)
	none := fresh(t, 0)
	is(t, "no room, no bytes", none.Write("a", ""), api.OK)
	is(t, "no room", none.Write("a", "1"), api.ErrSpace)
	most := fresh(t, 1<<16)
	is(t, "the most room", most.Write("a", strings.Repeat("x", 1<<16)), api.OK)
	is(t, "above the most room", most.Write("a", strings.Repeat("x", 1<<16+1)), api.ErrSpace)
}

func TestWriteAboveRoom(t *testing.T) { // P13.1: where more survived than there is room
	d := fresh(t, 10)
	done(t, d.Write("a", "1234567890"), d.Sync("a"), d.SyncDir(), d.Write("a", ""), d.Write("b", "1234567890"))
	d.Crash([]bool{true}, []uint64{0, all})
	has(t, "two full ones", d, `a="1234567890" b="1234567890" 20 0`)
	is(t, "less, but too much yet", d.Write("a", "1"), api.ErrSpace)
	is(t, "as many as there is room", d.Write("a", ""), api.OK)
}

func TestNone(t *testing.T) { // P13.1
	d := kept(t, "a", "1")
	steps := d.Steps()
	for _, n := range []string{"b", "", strings.Repeat("a", 33), "a\x00", "A"} {
		is(t, "Sync", d.Sync(n), api.ErrNone)
		is(t, "Remove", d.Remove(n), api.ErrNone)
		is(t, "Rename", d.Rename(n, "c"), api.ErrNone)
		is(t, "Rename to no name", d.Rename(n, ""), api.ErrNone)
		is(t, "Rename to itself", d.Rename(n, n), api.ErrNone)
		if s, e := d.Read(n); s != "" || e != api.ErrNone {
			t.Errorf("Read of %q: %q, %v", n, s, e)
		}
	}
	done(t, d.Remove("a"))
	is(t, "Remove of what is gone", d.Remove("a"), api.ErrNone)
	is(t, "Sync of what is gone", d.Sync("a"), api.ErrNone)
	if d.Steps() != steps+1 || d.Pending() != 1 {
		t.Errorf("%d steps, %d turns: what is refused is a step", d.Steps()-steps, d.Pending())
	}
}

func TestRename(t *testing.T) { // P13.1
	d := kept(t, "a", "1", "b", "22")
	steps := d.Steps()
	is(t, "to no name", d.Rename("a", ""), api.ErrArg)
	is(t, "to 33 bytes", d.Rename("a", strings.Repeat("x", 33)), api.ErrArg)
	is(t, "to itself", d.Rename("a", "a"), api.OK)
	has(t, "nothing happens", d, `a="1" b="22" 3 0`)
	if d.Steps() != steps {
		t.Error("what does nothing is a step")
	}
	done(t, d.Rename("a", strings.Repeat("x", 32)))
	has(t, "a new name", d, `b="22" xxxxxxxxxxxxxxxxxxxxxxxxxxxxxxxx="1" 3 1`)
	done(t, d.Rename("b", strings.Repeat("x", 32)))
	has(t, "what had that is gone", d, `xxxxxxxxxxxxxxxxxxxxxxxxxxxxxxxx="22" 2 2`)
	if d.Steps() != steps+2 {
		t.Errorf("%d steps", d.Steps()-steps)
	}
}

func TestNames(t *testing.T) { // P13.2
	d := fresh(t, 10)
	for _, n := range []string{"b", "a10", "a2", "\xff", "B", "aa", "a", "\x00"} {
		done(t, d.Write(n, ""))
	}
	if got := d.Names(); !slices.Equal(got, []string{"\x00", "B", "a", "a10", "a2", "aa", "b", "\xff"}) {
		t.Errorf("Names: %q", got)
	}
}

func TestPending(t *testing.T) { // P13.2: a new file's name, a Rename, a Remove, and nothing else
	d := fresh(t, 10)
	count := func(wanted int, what api.Errno) {
		t.Helper()
		if d.Pending() != wanted {
			t.Errorf("%d turns, wanted %d (%v)", d.Pending(), wanted, what)
		}
	}
	count(1, d.Write("a", "1"))
	count(1, d.Write("a", "2"))
	count(1, d.Sync("a"))
	count(2, d.Rename("a", "b"))
	count(2, d.Rename("b", "b"))
	count(3, d.Write("a", "3"))
	count(4, d.Remove("a"))
	count(4, d.Remove("a"))
	count(5, d.Write("a", "3"))
	count(5, d.Write("", "3"))
	count(0, d.SyncDir())
	count(0, d.Write("a", "4"))
	count(1, d.Remove("a"))
	d.Crash(nil, nil)
	count(0, api.OK)
}

// each: a step of each kind, on a disk that has a.
func each() []func(d *disk.Disk) api.Errno {
	return []func(d *disk.Disk) api.Errno{
		func(d *disk.Disk) api.Errno { return d.Write("a", "new") },
		func(d *disk.Disk) api.Errno { return d.Write("b", "new") },
		func(d *disk.Disk) api.Errno { return d.Sync("a") },
		func(d *disk.Disk) api.Errno { return d.Rename("a", "b") },
		func(d *disk.Disk) api.Errno { return d.Remove("a") },
		func(d *disk.Disk) api.Errno { return d.SyncDir() },
	}
}

func TestFuse(t *testing.T) { // P13.2
	for i, step := range each() {
		what := "step " + strconv.Itoa(i)
		d := kept(t, "a", "old")
		done(t, d.Write("a", "turned"), d.Write("c", "more"))
		steps := d.Steps()
		d.Fuse(0)
		if d.Down() {
			t.Errorf("%s: a fuse takes the power ahead of a step", what)
		}
		is(t, what, step(d), api.ErrPower)
		if !d.Down() || d.Steps() != steps || d.Pending() != 1 || d.Used() != 10 || len(d.Names()) != 0 {
			t.Errorf("%s: %v, %d steps, %d turns, %d bytes, %q", what, d.Down(), d.Steps(), d.Pending(), d.Used(), d.Names())
		}
		d.Crash([]bool{true}, []uint64{all, all})
		has(t, what+" isn't done", d, `a="turned" c="more" 10 0`)
		d.Fuse(1)
		is(t, what+", let by", step(d), api.OK)
		if d.Down() || d.Steps() != steps+1 {
			t.Errorf("%s, let by: %v, %d steps", what, d.Down(), d.Steps())
		}
		is(t, "the next one", d.SyncDir(), api.ErrPower)
	}
}

func TestFuseOfNoSteps(t *testing.T) { // P13.2: what is refused for another cause, or is no step, goes by
	d := kept(t, "a", "old")
	d.Fuse(0)
	is(t, "no name", d.Write("", ""), api.ErrArg)
	is(t, "no room", d.Write("a", strings.Repeat("x", api.MaxDisk+1)), api.ErrSpace)
	is(t, "Sync of none", d.Sync("b"), api.ErrNone)
	is(t, "Remove of none", d.Remove("b"), api.ErrNone)
	is(t, "Rename of none", d.Rename("b", "c"), api.ErrNone)
	is(t, "Rename to no name", d.Rename("a", ""), api.ErrArg)
	is(t, "Rename to itself", d.Rename("a", "a"), api.OK)
	has(t, "Read and the like", d, `a="old" 3 0`)
	if d.Down() {
		t.Error("the power is gone without a step")
	}
	is(t, "a step", d.SyncDir(), api.ErrPower)
	full := fresh(t, 10)
	for i := range 16 {
		done(t, full.Write(string(rune('a'+i)), ""))
	}
	full.Fuse(0)
	is(t, "the 17th", full.Write("z", ""), api.ErrFull)
	if full.Down() {
		t.Error("the power is gone without a step")
	}
}

func TestFuseSetAnew(t *testing.T) { // P13.2
	for _, n := range []int{-1, -2, math.MinInt} {
		d := fresh(t, 10)
		d.Fuse(0)
		d.Fuse(n)
		for range 20 {
			done(t, d.SyncDir())
		}
		if d.Down() || d.Steps() != 20 {
			t.Errorf("a fuse of %d: %v, %d steps", n, d.Down(), d.Steps())
		}
	}
	d := fresh(t, 10)
	d.Fuse(2)
	done(t, d.SyncDir())
	d.Fuse(2)
	done(t, d.SyncDir(), d.SyncDir())
	is(t, "the third one", d.SyncDir(), api.ErrPower)
	d.Fuse(-1)
	if !d.Down() {
		t.Error("a fuse gives the power again")
	}
	d.Fuse(0)
	d.Crash(nil, nil)
	done(t, d.SyncDir()) // no fuse behind a loss of power
	d.Fuse(math.MaxInt)
	done(t, d.SyncDir(), d.SyncDir())
	if d.Steps() != 6 {
		t.Errorf("%d steps", d.Steps())
	}
	d.Fuse(0)
	d.Crash(nil, nil) // there is the power yet
	done(t, d.SyncDir())
}

func TestPower(t *testing.T) { // P13.1: without power it is told ahead of all else
	d := kept(t, "a", "old")
	d.Fuse(0)
	is(t, "a step", d.SyncDir(), api.ErrPower)
	for i, e := range []api.Errno{
		d.Write("a", "x"), d.Write("", "x"), d.Write("z", strings.Repeat("x", api.MaxDisk+1)), d.Sync("a"), d.Sync("b"), d.Rename("a", "a"), d.Rename("b", "a"),
		d.Rename("a", ""), d.Remove("a"), d.Remove("b"), d.SyncDir(),
	} {
		is(t, "call "+strconv.Itoa(i), e, api.ErrPower)
	}
	for _, n := range []string{"a", "b", ""} {
		if s, e := d.Read(n); s != "" || e != api.ErrPower {
			t.Errorf("Read of %q: %q, %v", n, s, e)
		}
	}
	if len(d.Names()) != 0 || d.Used() != 3 || !d.Down() || d.Steps() != 3 {
		t.Errorf("%q, %d bytes, %v, %d steps", d.Names(), d.Used(), d.Down(), d.Steps())
	}
	d.Crash(nil, nil)
	if d.Down() {
		t.Error("the power is gone behind its loss")
	}
	has(t, "with power again", d, `a="old" 3 0`)
}

func TestCrash(t *testing.T) { // P13.2: the two examples
	d := fresh(t, 10)
	done(t, d.Write("a", "x"), d.Sync("a"))
	d.Crash(nil, nil)
	has(t, "without SyncDir", d, "0 0")
	done(t, d.Write("a", "x"), d.Sync("a"), d.SyncDir())
	d.Crash(nil, nil)
	has(t, "with SyncDir", d, `a="x" 1 0`)
	done(t, d.Write("b", "yy"), d.SyncDir(), d.Write("a", "zzz"))
	d.Crash(nil, nil)
	has(t, "without Sync", d, `a="x" b="" 1 0`)
	if d.Steps() != 8 {
		t.Errorf("%d steps", d.Steps())
	}
}

func TestCrashNames(t *testing.T) { // P13.2: each set of turns
	yes, no := true, false
	for _, x := range []struct {
		what   string
		steps  func(d *disk.Disk) []api.Errno
		names  []bool
		wanted string
	}{
		{"a new name", made, []bool{yes}, `a="1" b="22" c="" 3 0`},
		{"a new name, lost", made, []bool{no, yes}, `a="1" b="22" 3 0`},
		{"a new name, and none told", made, nil, `a="1" b="22" 3 0`},
		{"a Rename", moved, []bool{yes}, `b="1" 1 0`},
		{"a Rename, lost", moved, []bool{no}, `a="1" b="22" 3 0`},
		{"a Rename, and more told", moved, []bool{yes, yes, yes}, `b="1" 1 0`},
		{"a Remove", gone, []bool{yes}, `b="22" 2 0`},
		{"a Remove, lost", gone, []bool{no}, `a="1" b="22" 3 0`},
		{"made and renamed", madeMoved, []bool{yes, yes}, `a="" b="22" 2 0`},
		{"made, not renamed", madeMoved, []bool{yes}, `a="1" b="22" t="" 3 0`},
		{"renamed, not made", madeMoved, []bool{no, yes}, `a="1" b="22" 3 0`},
		{"made, and removed", madeGone, []bool{yes, yes}, `a="1" b="22" 3 0`},
		{"removed, not made", madeGone, []bool{no, yes}, `a="1" b="22" 3 0`},
		{"another one of that name", again, []bool{yes, yes}, `a="" b="22" 2 0`},
		{"another one of that name, the first not removed", again, []bool{no, yes}, `a="" b="22" 2 0`},
		{"another one of that name, not made", again, []bool{yes, no}, `b="22" 2 0`},
		{"another one of that name, nothing", again, nil, `a="1" b="22" 3 0`},
		{"another one that is removed, not made", againGone, []bool{no, no, yes}, `a="1" b="22" 3 0`},
		{"another one that is removed, made", againGone, []bool{no, yes, yes}, `b="22" 2 0`},
		{"another one that is renamed, not made", againMoved, []bool{no, no, yes}, `a="1" b="22" 3 0`},
		{"another one that is renamed", againMoved, []bool{no, yes, yes}, `b="22" c="" 2 0`},
		{"in place of another one", swapped, []bool{yes, yes, yes}, `a="22" b="1" 3 0`},
		{"in place of another one, half way", swapped, []bool{yes, yes, no}, `a="22" c="1" 3 0`},
		{"in place of another one, the first", swapped, []bool{yes}, `b="22" c="1" 3 0`},
	} {
		d := kept(t, "a", "1", "b", "22")
		done(t, x.steps(d)...)
		d.Crash(x.names, nil)
		has(t, x.what, d, x.wanted)
		d.Crash([]bool{yes, yes, yes}, []uint64{all, all, all})
		has(t, x.what+", the power lost again", d, x.wanted)
	}
}

func made(d *disk.Disk) []api.Errno  { return []api.Errno{d.Write("c", "333")} }
func moved(d *disk.Disk) []api.Errno { return []api.Errno{d.Rename("a", "b")} }
func gone(d *disk.Disk) []api.Errno  { return []api.Errno{d.Remove("a")} }

func madeMoved(d *disk.Disk) []api.Errno {
	return []api.Errno{d.Write("t", "333"), d.Rename("t", "a")}
}

func madeGone(d *disk.Disk) []api.Errno { return []api.Errno{d.Write("t", "333"), d.Remove("t")} }

func again(d *disk.Disk) []api.Errno { return []api.Errno{d.Remove("a"), d.Write("a", "333")} }

func againGone(d *disk.Disk) []api.Errno { return append(again(d), d.Remove("a")) }

func againMoved(d *disk.Disk) []api.Errno { return append(again(d), d.Rename("a", "c")) }

func swapped(d *disk.Disk) []api.Errno {
	return []api.Errno{d.Rename("a", "c"), d.Rename("b", "a"), d.Rename("c", "b")}
}

func TestCrashTwoNames(t *testing.T) { // P13.2: a file that is renamed twice, of which only the second is sure
	d := kept(t, "a", "1", "x", "22")
	done(t, d.Rename("a", "b"), d.Rename("b", "c"), d.Write("c", "333"), d.Write("x", "4444"))
	d.Crash([]bool{false, true}, []uint64{all, long})
	has(t, "two names", d, `a="333" c="333" x="22\x00\x00" 7 0`)
	done(t, d.Write("a", "55555"))
	has(t, "written by the one, read by the other", d, `a="55555" c="55555" x="22\x00\x00" 9 0`)
	done(t, d.Sync("c"), d.Remove("a"))
	has(t, "the one is removed", d, `c="55555" x="22\x00\x00" 9 1`)
	d.Crash(nil, nil)
	has(t, "and it is lost", d, `a="55555" c="55555" x="22\x00\x00" 9 0`)
	done(t, d.Rename("c", "d"))
	has(t, "a new name alone", d, `d="55555" x="22\x00\x00" 9 1`)
	d.Crash([]bool{true}, nil)
	has(t, "which lasts", d, `d="55555" x="22\x00\x00" 9 0`)
}

func TestCrashTwoNamesInOne(t *testing.T) { // P13.1, P13.2: the one name takes the other's place
	d := kept(t, "a", "1")
	done(t, d.Rename("a", "b"), d.Rename("b", "c"))
	d.Crash([]bool{false, true}, nil)
	done(t, d.Rename("a", "c"))
	has(t, "one name", d, `c="1" 1 1`)
	d.Crash(nil, nil)
	has(t, "two of them again", d, `a="1" c="1" 1 0`)
}

func TestCrashTurnsOfLostTurns(t *testing.T) { // P13.2: in order, to the sure names as they are then
	for _, x := range []struct {
		names  []bool
		wanted string
	}{
		{[]bool{false, true}, `a="1" 1 0`}, // a file that has a name yet; the name goes
		{[]bool{true, true}, `0 0`},
		{[]bool{true, false}, `b="1" 1 0`},
		{nil, `a="1" b="22" 3 0`},
	} {
		d := kept(t, "a", "1", "b", "22")
		done(t, d.Rename("a", "b"), d.Remove("b"))
		d.Crash(x.names, nil)
		has(t, "renamed, and removed", d, x.wanted)
	}
}

func TestCrashMany(t *testing.T) { // P13.2: more files than may be made may survive
	d := fresh(t, 100)
	for i := range 16 {
		done(t, d.Write(string(rune('a'+i)), "x"))
	}
	done(t, d.SyncDir(), d.Remove("a"), d.Write("q", "x"))
	d.Crash([]bool{false, true}, slices.Repeat([]uint64{all}, 17))
	if len(d.Names()) != 17 || d.Used() != 17 {
		t.Errorf("%d files, %d bytes", len(d.Names()), d.Used())
	}
	is(t, "one more", d.Write("z", ""), api.ErrFull)
	done(t, d.Remove("q"))
	is(t, "one more, of 16", d.Write("z", ""), api.ErrFull)
	done(t, d.Remove("p"))
	is(t, "one more, of 15", d.Write("z", ""), api.OK)
}

func TestCrashSectors(t *testing.T) { // P13.2
	old, new := strings.Repeat("o", 200), strings.Repeat("n", 300)
	for _, x := range []struct {
		was, is string
		mask    uint64
		wanted  string
	}{
		{old, new, 0, old},
		{old, new, all, new},
		{old, new, all - long, new[:200]},
		{old, new, long, old + strings.Repeat("\x00", 100)},
		{old, new, 1, new[:64] + old[64:]},
		{old, new, 2, old[:64] + new[64:128] + old[128:]},
		{old, new, 8, old[:192] + new[192:200]},
		{old, new, 16, old},
		{old, new, long | 8, old[:192] + new[192:256] + strings.Repeat("\x00", 44)},
		{old, new, long | 16, old + strings.Repeat("\x00", 56) + new[256:]},
		{new, old, 0, new},
		{new, old, all, old},
		{new, old, all - long, old + strings.Repeat("\x00", 100)},
		{new, old, long, new[:200]},
		{new, old, 8, new[:192] + old[192:] + strings.Repeat("\x00", 56) + new[256:]},
		{new, old, long | 8, new[:192] + old[192:]},
		{"", new, 0, ""},
		{"", new, all - long, ""},
		{"", new, long, strings.Repeat("\x00", 300)},
		{"", new, long | 1, new[:64] + strings.Repeat("\x00", 236)},
		{new, "", all, ""},
		{new, "", long, ""},
		{new, "", 1, strings.Repeat("\x00", 64) + new[64:]},
		{"o", "n", 1, "n"},
		{"o", "n", 2, "o"},
		{"o", "n", all - long - 1, "o"},
		{old[:64], new[:64], 1, new[:64]},
		{old[:65], new[:65], 1, new[:64] + "o"},
		{old[:65], new[:65], 2, old[:64] + "n"},
	} {
		d := kept(t, "a", x.was)
		done(t, d.Write("a", x.is))
		d.Crash(nil, []uint64{x.mask})
		if s, e := d.Read("a"); s != x.wanted || e != api.OK {
			t.Errorf("of %d bytes, that were %d, %x leaves %q (%v), wanted %q", len(x.is), len(x.was), x.mask, s, e, x.wanted)
		}
		d.Crash(nil, []uint64{^x.mask}) // it is sure now
		if s, _ := d.Read("a"); s != x.wanted {
			t.Errorf("of %d bytes, that were %d, %x leaves %q at last", len(x.is), len(x.was), x.mask, s)
		}
	}
}

func TestCrashLong(t *testing.T) { // P13.2: bit k modulo 63, bit 63 is no sector's
	old, new := strings.Repeat("o", 1<<16), strings.Repeat("n", 1<<16)
	for _, mask := range []uint64{0, 1, 2, 1 << 62, long, 1<<62 | 5, all, 0x0123456789abcdef} {
		d := kept(t, "a", old)
		done(t, d.Write("a", new))
		d.Crash(nil, []uint64{mask})
		s, _ := d.Read("a")
		if len(s) != 1<<16 {
			t.Fatalf("%x: %d bytes", mask, len(s))
		}
		for i := range len(s) {
			wanted := byte('o')
			if mask&(1<<(i/64%63)) != 0 {
				wanted = 'n'
			}
			if s[i] != wanted {
				t.Fatalf("%x: byte %d is %q", mask, i, s[i])
			}
		}
	}
}

func TestCrashMasksByNames(t *testing.T) { // P13.2: the masks are those of the files that have a name behind the turns, rising
	d := kept(t, "c", "1", "a", "2", "b", "3", "d", "4")
	done(t, d.Write("a", "A"), d.Write("b", "B"), d.Write("c", "C"), d.Write("d", "D"), d.Remove("b"), d.Rename("d", "0"))
	d.Crash([]bool{true, true}, []uint64{1, 0, 1, 1}) // of 0, a, c
	has(t, "masks", d, `0="D" a="2" c="C" 3 0`)
	d = kept(t, "c", "1", "a", "2", "b", "3")
	done(t, d.Write("a", "A"), d.Write("b", "B"), d.Write("c", "C"), d.Remove("b"))
	d.Crash([]bool{false}, []uint64{0, 1})
	has(t, "masks, what was removed is there again", d, `a="2" b="B" c="1" 3 0`)
}

func TestSure(t *testing.T) { // P13.3, and Sync, SyncDir
	d := fresh(t, 100)
	done(t, d.Write("a", "1"), d.Write("b", "2"), d.SyncDir(), d.Sync("a"), d.Rename("a", "c"))
	for range 3 {
		d.Crash(nil, nil)
		has(t, "names, and the bytes of the one", d, `a="1" b="" 1 0`)
	}
	done(t, d.Rename("a", "c"), d.SyncDir(), d.Write("c", "333"), d.Remove("b"))
	d.Crash(nil, nil)
	has(t, "a new name is sure", d, `b="" c="1" 1 0`)
	done(t, d.Write("c", "333"), d.Rename("c", "d"), d.Sync("d"), d.Remove("d"))
	d.Crash(nil, nil)
	has(t, "bytes are sure under another name, too", d, `b="" c="333" 3 0`)
	done(t, d.Remove("b"), d.Remove("c"), d.SyncDir(), d.Write("c", "new"))
	d.Crash(nil, nil)
	has(t, "what is removed is gone", d, `0 0`)
	done(t, d.Write("c", "newer"), d.SyncDir())
	d.Crash(nil, nil)
	has(t, "a new file has none of the old one's bytes", d, `c="" 0 0`)
}

func TestMemory(t *testing.T) { // nothing that is handed in is kept, no answer is told twice
	buffer := []byte("nametext")
	shared := unsafe.String(&buffer[0], len(buffer))
	d := fresh(t, 100)
	done(t, d.Write(shared[:4], shared[4:]), d.Sync(shared[:4]), d.Write("x", ""), d.Rename("x", shared[1:4]), d.SyncDir())
	copy(buffer, "spoiltXX")
	has(t, "behind a change of what was handed in", d, `ame="" name="text" 4 0`)
	at := func(s string) *byte { return unsafe.StringData(s) }
	one, _ := d.Read("name")
	two, _ := d.Read("name")
	if at(one) == at(two) {
		t.Error("Read answers one text twice")
	}
	l, m := d.Names(), d.Names()
	if &l[0] == &m[0] || at(l[0]) == at(m[0]) {
		t.Error("Names answers one list twice, or one name")
	}
	l[0], l[1] = "spoilt", "spoilt"
	names, sectors := []bool{true, false}[:1], []uint64{1, 2}[:1]
	done(t, d.Rename("name", "new"))
	d.Crash(names, sectors)
	if !names[0] || names[:2][1] || sectors[0] != 1 || sectors[:2][1] != 2 {
		t.Error("Crash changes what is handed in")
	}
	has(t, "behind a change of what was answered", d, `ame="" new="text" 4 0`)
}

func TestTwoDisks(t *testing.T) { // what a call answers hangs on its disk alone
	a, b := kept(t, "a", "1"), kept(t, "a", "2")
	a.Fuse(0)
	is(t, "the one", a.Remove("a"), api.ErrPower)
	is(t, "the other one", b.Write("b", "3"), api.OK)
	a.Crash(nil, nil)
	has(t, "the one", a, `a="1" 1 0`)
	has(t, "the other one", b, `a="2" b="3" 2 1`)
}
