package session_test

import (
	"math"
	"math/rand"
	"slices"
	"strings"
	"testing"
	"unsafe"

	"outrider/api"
	"outrider/session"
)

func TestKinds(t *testing.T) { // P19.1
	is(t, "Subscribe", session.Subscribe, 1)
	is(t, "Offered", session.Offered, 2)
	is(t, "Ack", session.Ack, 3)
	is(t, "Nack", session.Nack, 4)
}

func TestMessage(t *testing.T) { // P19.1
	is(t, "byte by byte", session.Message(session.Offered, 258, "xy", 300, 1)[:26], "OF\x01\x02\x00\x00\x00\x00\x00\x00\x01\x02\x00\x00\x00\x0b\x03\x03\x01\xac\x02\x01\x01\x02\x02x")
	for _, epoch := range numbers() {
		for _, a := range numbers() {
			is(t, "Subscribe", session.Message(session.Subscribe, epoch, "", a), subscribe(epoch, a))
			for _, b := range numbers() {
				is(t, "Offer", session.Message(session.Offered, epoch, "x", a, b), offer(epoch, a, b, "x"))
				is(t, "Ack", session.Message(session.Ack, epoch, "", a, b), ack(epoch, a, b))
				is(t, "Nack", session.Message(session.Nack, epoch, "", a, b, epoch/2), nack(epoch, a, b, epoch/2))
			}
		}
	}
	for _, body := range []string{"", "\x00", "\xff\xfe", "OF\x01", strings.Repeat("x", 127), strings.Repeat("x", 128), strings.Repeat("x", 8000)} {
		is(t, "an Offer of a body", session.Message(session.Offered, 1, body, 7, 1), offer(1, 7, 1, body))
		for _, kind := range []int{session.Subscribe, session.Ack, session.Nack, 5} {
			is(t, "a body that isn't told", session.Message(kind, 1, body, 7), framed(byte(kind), 1, list(num(7))))
		}
	}
}

func TestMessageOfAnyNumbers(t *testing.T) { // P19.1: what isn't a message is a frame with a list, none the less
	for kind := 1; kind <= 255; kind++ {
		for n := range 6 {
			var l []uint64
			var row []string
			for i := range n {
				l = append(l, uint64(i)<<20)
				row = append(row, num(uint64(i)<<20))
			}
			if kind == session.Offered {
				row = append(row, text("x"))
			}
			is(t, "of any numbers", session.Message(kind, 9, "x", l...), framed(byte(kind), 9, list(row...)))
		}
	}
}

func TestMessageThatCouldNotBe(t *testing.T) { // P19.1
	for _, kind := range []int{0, -1, -2, 256, 257, 258, 1<<32 + 1, math.MaxInt, math.MinInt} {
		is(t, "no frame's kind", session.Message(kind, 1, "", 1, 2, 3), "")
	}
	body := strings.Repeat("x", api.MaxBytes-9) // a list's two bytes, two numbers' four, a text's three
	is(t, "as long as may be", session.Message(session.Offered, 1, body, 7, 1), offer(1, 7, 1, body))
	is(t, "too long by its body", session.Message(session.Offered, 1, body+"x", 7, 1), "")
	is(t, "too long by its version", session.Message(session.Offered, 1, body, 128, 1), "")
	is(t, "too long by its nonce", session.Message(session.Offered, 1, body, 7, 128), "")
	is(t, "too long by far", session.Message(session.Offered, 1, strings.Repeat("x", 1<<20), 7, 1), "")
	is(t, "a long body that isn't told", session.Message(session.Ack, 1, strings.Repeat("x", 1<<20), 7, 1), ack(1, 7, 1))
	l := make([]uint64, 4094)
	wanted := framed(9, 1, list(slices.Repeat([]string{num(0)}, 4094)...))
	is(t, "as many numbers as may be", session.Message(9, 1, "", l...), wanted)
	for _, n := range []int{4095, 8192, 8193, 1 << 20} {
		is(t, "too many numbers", session.Message(9, 1, "", make([]uint64, n)...), "")
	}
}

func TestMessageLeavesItsNumbers(t *testing.T) { // the rule of memory: spare room, too
	room := []uint64{1, 2, 3, 4}
	session.Message(session.Ack, 1, "", room[:2]...)
	if !slices.Equal(room, []uint64{1, 2, 3, 4}) {
		t.Errorf("changed: %v", room)
	}
}

func TestRead(t *testing.T) { // P19.1
	for _, epoch := range numbers() {
		for _, a := range numbers() {
			reads(t, "Subscribe", subscribe(epoch, a), message{1, epoch, []uint64{a}, ""})
			for _, b := range numbers() {
				reads(t, "Offer", offer(epoch, a, b, "x"), message{2, epoch, []uint64{a, b}, "x"})
				reads(t, "Ack", ack(epoch, a, b), message{3, epoch, []uint64{a, b}, ""})
				reads(t, "Nack", nack(epoch, a, b, epoch/2), message{4, epoch, []uint64{a, b, epoch / 2}, ""})
			}
		}
	}
	for _, body := range []string{"", "\x00", "\xff\xfe", offer(1, 7, 1, "x"), strings.Repeat("x", 128), strings.Repeat("x", api.MaxBytes-9)} {
		reads(t, "an Offer of a body", offer(1, 7, 1, body), message{2, 1, []uint64{7, 1}, body})
	}
}

func TestReadOfNoFrame(t *testing.T) { // P19.1
	for _, s := range []string{subscribe(1, 7), offer(2, 7, 1, "xy"), ack(3, 7, 1), nack(4, 7, 1, 9)} {
		for i := range len(s) {
			none(t, "a beginning", s[:i])
			none(t, "an end", s[i+1:])
			for bit := range 8 {
				b := []byte(s)
				b[i] ^= 1 << bit
				none(t, "a bit turned", string(b))
			}
		}
		none(t, "a rest", s+"\x00")
		none(t, "two", s+s)
	}
	none(t, "no text", "")
	none(t, "a letter", "x")
	none(t, "a kind of 0", framed(0, 1, list(num(7))))
	none(t, "too long", offer(1, 7, 1, strings.Repeat("x", api.MaxBytes-8)))
}

func TestReadOfAnotherBody(t *testing.T) { // P19.1: the frame is whole, and yet no message
	v := num(7)
	bodies := map[byte]string{1: list(v), 2: list(v, v, text("x")), 3: list(v, v), 4: list(v, v, v)}
	for kind := 1; kind <= 255; kind++ {
		for of, body := range bodies {
			if kind != int(of) {
				none(t, "another kind's", framed(byte(kind), 1, body))
			}
		}
		for what, body := range map[string]string{
			"nothing":              "",
			"a number":             v,
			"a text":               text("x"),
			"an empty list":        list(),
			"four numbers":         list(v, v, v, v),
			"a text alone":         list(text("x")),
			"a number and a text":  list(v, text("x")),
			"three, and a text":    list(v, v, v, text("x")),
			"four, and a text":     list(v, v, v, v, text("x")),
			"two texts":            list(v, v, text("x"), text("x")),
			"the text first":       list(text("x"), v, v),
			"the text between":     list(v, text("x"), v),
			"an empty text more":   list(v, v, v, text("")),
			"a text of a list":     text(list(v, v)),
			"a list in it":         list(list(v), v, v),
			"an empty list behind": list(v, v, text("x"), list()),
			"a list in place":      list(v, v, list()),
			"one ahead":            list(list(), v),
			"one list more":        list(list(v, v)),
			"no kind":              list(v, "\x04\x00"),
			"too short":            "\x03\x03" + v + v,
			"too deep":             strings.Repeat("\x03\x01", 7) + v,
			"a number by more":     list("\x01\x87\x00"),
			"two numbers by more":  list(v, "\x01\x87\x00"),
			"three by more":        list(v, v, "\x01\x87\x00"),
		} {
			none(t, what, framed(byte(kind), 1, body))
		}
		for _, body := range bodies {
			none(t, "a rest in it", framed(byte(kind), 1, body+"\x00"))
			none(t, "twice", framed(byte(kind), 1, body+body))
			none(t, "without its last byte", framed(byte(kind), 1, body[:len(body)-1]))
		}
	}
	none(t, "an Offer's text in an Ack", framed(3, 1, list(v, v, text(""))))
	none(t, "an Offer without a text", framed(2, 1, list(v, v)))
	none(t, "a Subscribe with a text", framed(1, 1, list(v, text(""))))
}

func TestReadByChance(t *testing.T) { // P19.1: what is read would be written so, and nothing else is read
	r := rand.New(rand.NewSource(19))
	read := 0
	for range 40000 {
		var row []string
		var l []uint64
		body, texts := "", 0
		for range r.Intn(5) {
			if r.Intn(4) > 0 {
				n := r.Uint64() >> r.Intn(64)
				row, l = append(row, num(n)), append(l, n)
				continue
			}
			body = strings.Repeat("b", r.Intn(3))
			row, texts = append(row, text(body)), texts+1
		}
		kind, epoch := 1+r.Intn(5), r.Uint64()>>r.Intn(64)
		s := framed(byte(kind), epoch, list(row...))
		ok := kind == 1 && len(l) == 1 && texts == 0 || kind == 3 && len(l) == 2 && texts == 0 || kind == 4 && len(l) == 3 && texts == 0
		if kind == 2 && len(l) == 2 && texts == 1 {
			ok = row[2][0] == 2 // the text is the last one
		}
		if !ok {
			none(t, "by chance", s)
			continue
		}
		read++
		reads(t, "by chance", s, message{kind, epoch, l, body})
		is(t, "written again", session.Message(kind, epoch, body, l...), s)
	}
	if read < 1000 {
		t.Errorf("only %d were read", read)
	}
}

func TestReadIsNew(t *testing.T) { // the rule of memory
	s := offer(1, 7, 1, "body")
	_, _, l, body, _ := session.Read(s)
	from, at := uintptr(unsafe.Pointer(unsafe.StringData(s))), uintptr(unsafe.Pointer(unsafe.StringData(body)))
	if from <= at && at < from+uintptr(len(s)) {
		t.Error("the body lies in the text")
	}
	l[0], l[1] = 0, 0
	reads(t, "again", s, message{2, 1, []uint64{7, 1}, "body"})
}
