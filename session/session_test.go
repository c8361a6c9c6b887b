package session_test

import (
	"math"
	"strings"
	"testing"
	"unsafe"

	"outrider/api"
	"outrider/backoff"
	"outrider/session"
)

func TestNew(t *testing.T) { // P19.2
	for _, version := range numbers() {
		w := backoff.Wait{Base: 2, Cap: 9, Tries: 3}
		is(t, "New", session.New(w, version), session.Session{Version: version, Wait: w})
	}
	is(t, "of nothing", session.New(backoff.Wait{}, 0), session.Session{})
}

func TestTick(t *testing.T) { // P19.2
	w := backoff.Wait{Base: 2, Cap: 9, Tries: 3}
	for _, now := range numbers() {
		s, text := session.New(w, 5).Tick(now)
		is(t, "of a new one", s, session.Session{Epoch: 1, Version: 5, Open: true, Wait: w})
		is(t, "its Subscribe", text, subscribe(1, 5))
	}
	shut := open()
	shut.Open = false
	for _, x := range []struct {
		now  uint64
		goes bool
	}{{0, false}, {1, false}, {69, false}, {70, true}, {71, true}, {most, true}} {
		s, text := shut.Tick(x.now)
		if !x.goes {
			is(t, "before Next", s, shut)
			is(t, "before Next", text, "")
			continue
		}
		again := shut
		again.Open, again.Epoch, again.Nonce, again.Reply = true, 4, 0, ""
		is(t, "from Next on", s, again)
		is(t, "from Next on", text, subscribe(4, 20))
	}
	for _, now := range numbers() {
		s, text := open().Tick(now)
		is(t, "of an open one", s, open())
		is(t, "of an open one", text, "")
	}
	late := session.Session{Next: most}
	s, text := late.Tick(most - 1)
	is(t, "before the last tick", s, late)
	is(t, "before the last tick", text, "")
	s, text = late.Tick(most)
	is(t, "at the last tick", s, session.Session{Epoch: 1, Next: most, Open: true})
	is(t, "at the last tick", text, subscribe(1, 0))
}

func TestEpochs(t *testing.T) { // P19.2: each is the next one
	s := session.New(backoff.Wait{}, 9)
	for epoch := uint64(1); epoch < 300; epoch++ {
		var text string
		s, text = s.Tick(epoch)
		is(t, "the Epoch", s.Epoch, epoch)
		is(t, "the Subscribe", text, subscribe(epoch, 9))
		s = s.Lost(epoch)
	}
	for _, x := range []struct{ from, to uint64 }{{1<<32 - 1, 1 << 32}, {most - 1, most}, {most, most}} { // it doesn't go round
		s, text := session.Session{Epoch: x.from}.Tick(0)
		is(t, "a great Epoch", s.Epoch, x.to)
		is(t, "a great Epoch", text, subscribe(x.to, 0))
	}
}

func TestLost(t *testing.T) { // P19.2
	wanted := open()
	wanted.Open, wanted.Next, wanted.Wait.Tries = false, 10+32, 5 // the delay is that of four tries
	is(t, "Lost", open().Lost(10), wanted)
	for _, now := range numbers() {
		shut := open()
		shut.Open = false
		is(t, "of one that isn't open", shut.Lost(now), shut)
		is(t, "of a new one", session.New(backoff.Wait{Base: 2, Cap: 9}, 5).Lost(now), session.New(backoff.Wait{Base: 2, Cap: 9}, 5))
	}
	for _, x := range []struct {
		now  uint64
		wait backoff.Wait
		next uint64
	}{
		{0, backoff.Wait{}, 0},
		{10, backoff.Wait{Base: 3, Cap: 2}, 12},
		{10, backoff.Wait{Base: 3, Cap: 20, Tries: -5}, 13},
		{10, backoff.Wait{Base: 3, Cap: 20, Tries: 64}, 30},
		{most - 1, backoff.Wait{Base: 1, Cap: 9}, most},
		{most, backoff.Wait{Base: 1, Cap: 9}, most}, // it doesn't go round
		{1 << 63, backoff.Wait{Base: 1 << 63, Cap: most}, most},
		{5, backoff.Wait{Base: most, Cap: most, Tries: math.MaxInt}, most},
	} {
		s := session.Session{Open: true, Epoch: 1, Wait: x.wait}.Lost(x.now)
		is(t, "Lost", s, session.Session{Epoch: 1, Next: x.next, Wait: x.wait.Next()})
	}
}

func TestWaits(t *testing.T) { // P19.2: they grow from loss to loss, and begin anew with an offer
	s := session.New(backoff.Wait{Base: 3, Cap: 20}, 0)
	now := uint64(100)
	for _, delay := range []uint64{3, 6, 12, 20, 20} {
		s, _ = s.Tick(now)
		s = s.Lost(now)
		for n := range delay {
			u, text := s.Tick(now + n)
			is(t, "ahead of its time", u, s)
			is(t, "ahead of its time", text, "")
		}
		now += delay
	}
	s, _ = s.Tick(now)
	s, _, _, _ = s.Take(offer(s.Epoch, 1, 1, ""))
	is(t, "behind an offer", s.Lost(now).Next, now+3)
}

func TestTake(t *testing.T) { // P19.3
	for _, nonce := range []uint64{6, 7, 300, most} {
		for _, version := range numbers() {
			then := open()
			then.Nonce, then.Reply, then.Wait.Tries = nonce, "", 0
			takes(t, "an Offer", open(), offer(3, version, nonce, "x"), then, session.Offer{Version: version, Nonce: nonce, Body: "x"})
		}
	}
	s, _ := session.New(backoff.Wait{}, 0).Tick(0)
	then := s
	then.Nonce = 1
	s = takes(t, "the first one", s, offer(1, 0, 1, ""), then, session.Offer{Nonce: 1})
	then.Nonce = 2
	takes(t, "a next one ahead of an answer", s, offer(1, 0, 2, ""), then, session.Offer{Nonce: 2})
	body := strings.Repeat("x", api.MaxBytes-9)
	takes(t, "as long as may be", s, offer(1, 0, 2, body), then, session.Offer{Nonce: 2, Body: body})
}

func TestTakeErrors(t *testing.T) { // P19.3: the first that holds
	shut, unanswered := open(), open()
	shut.Open, unanswered.Reply = false, ""
	for _, s := range []session.Session{open(), shut, unanswered, {}} {
		for what, text := range map[string]string{"no text": "", "a letter": "x", "no message": framed(5, 3, list(num(1))), "an Offer and a rest": offer(3, 1, 6, "x") + "x", "half of one": offer(3, 1, 6, "x")[:20]} {
			refuses(t, what, s, text, "", api.ErrForm)
		}
		for what, text := range map[string]string{"a Subscribe": subscribe(3, 1), "an Ack": ack(3, 1, 6), "a Nack": nack(3, 1, 6, 9), "an Ack of another epoch": ack(2, 1, 6), "an Ack of the last nonce": ack(3, 1, 5)} {
			refuses(t, what, s, text, "", api.ErrKind)
		}
	}
	for _, nonce := range []uint64{0, 4, 5, 6, most} {
		refuses(t, "not open", shut, offer(3, 1, nonce, "x"), "", api.ErrStale)
		refuses(t, "of a new one", session.New(backoff.Wait{}, 0), offer(0, 1, nonce, "x"), "", api.ErrStale)
		for _, epoch := range []uint64{0, 1, 2, 4, 300, most} {
			refuses(t, "another epoch", open(), offer(epoch, 1, nonce, "x"), "", api.ErrStale)
		}
	}
	for nonce := range uint64(5) {
		refuses(t, "a nonce below", open(), offer(3, 1, nonce, "x"), "", api.ErrStale)
		refuses(t, "a nonce below, unanswered", unanswered, offer(3, 1, nonce, "x"), "", api.ErrStale)
	}
	refuses(t, "the nonce, unanswered", unanswered, offer(3, 1, 5, "x"), "", api.ErrStale)
	refuses(t, "the nonce, answered", open(), offer(3, 1, 5, "x"), "reply", api.ErrTwice)
	refuses(t, "the nonce, of another version and body", open(), offer(3, 99, 5, ""), "reply", api.ErrTwice)
	first, _ := session.New(backoff.Wait{}, 0).Tick(0)
	refuses(t, "the nonce 0", first, offer(1, 1, 0, "x"), "", api.ErrStale)
	refuses(t, "the nonce 0 of one by hand", session.Session{Open: true, Reply: "r"}, offer(0, 1, 0, "x"), "r", api.ErrTwice)
}

func TestDone(t *testing.T) { // P19.3
	s := open()
	s.Reply = ""
	for _, version := range numbers() {
		then := s
		then.Version, then.Reply = version, ack(3, version, 5)
		u, text := s.Done(session.Offer{Version: version, Nonce: 5, Body: "x"}, api.OK)
		is(t, "OK", u, then)
		is(t, "an Ack", text, ack(3, version, 5))
		for _, code := range []api.Errno{api.ErrNil, api.ErrForm, api.ErrHeld, api.ErrSyntax, 127, 128, math.MaxInt} {
			then := s
			then.Reply = nack(3, 20, 5, uint64(code))
			u, text := s.Done(session.Offer{Version: version, Nonce: 5, Body: "x"}, code)
			is(t, "another code", u, then)
			is(t, "a Nack", text, nack(3, 20, 5, uint64(code)))
		}
	}
	for _, code := range []api.Errno{-1, -60, math.MinInt} { // it doesn't go round
		u, text := s.Done(session.Offer{Version: 9, Nonce: 5}, code)
		is(t, "a code below 0", text, nack(3, 20, 5, 0))
		is(t, "a code below 0", u.Version, 20)
	}
	greatest := session.Session{Open: true, Epoch: most, Version: most, Nonce: most}
	_, text := greatest.Done(session.Offer{Version: most, Nonce: most}, api.OK)
	is(t, "of the greatest", text, ack(most, most, most))
	_, text = greatest.Done(session.Offer{Nonce: most}, math.MaxInt)
	is(t, "of the greatest", text, nack(most, most, most, math.MaxInt))
}

func TestDoneOfAnother(t *testing.T) { // P19.3: it stays as it was
	unanswered := open()
	unanswered.Reply = ""
	for _, code := range []api.Errno{api.OK, api.ErrForm} {
		for _, nonce := range []uint64{0, 4, 6, most} {
			u, text := unanswered.Done(session.Offer{Version: 9, Nonce: nonce}, code)
			is(t, "of another nonce", u, unanswered)
			is(t, "of another nonce", text, "")
		}
		u, text := open().Done(session.Offer{Version: 9, Nonce: 5}, code)
		is(t, "of what is answered", u, open())
		is(t, "of what is answered", text, "")
		first := session.Session{Epoch: 1, Open: true}
		u, text = first.Done(session.Offer{}, code)
		is(t, "of the nonce 0", u, first)
		is(t, "of the nonce 0", text, "")
	}
}

func TestDoneBehindALoss(t *testing.T) { // P19.2, P19.3: what was taken is answered by the epoch that it came in, as long as that is the last one
	s, _ := session.New(backoff.Wait{}, 1).Tick(0)
	s, o, _, _ := s.Take(offer(1, 2, 3, "x"))
	s = s.Lost(0)
	u, text := s.Done(o, api.OK)
	is(t, "not open", text, ack(1, 2, 3))
	is(t, "not open", u, session.Session{Epoch: 1, Version: 2, Nonce: 3, Reply: ack(1, 2, 3), Wait: backoff.Wait{Tries: 1}})
	u, text = u.Tick(0)
	is(t, "the next epoch", text, subscribe(2, 2))
	refuses(t, "an offer of the epoch ahead of it", u, offer(1, 2, 3, "x"), "", api.ErrStale)
	s, _ = s.Tick(0)
	u, text = s.Done(o, api.OK)
	is(t, "in the next epoch", u, s)
	is(t, "in the next epoch", text, "")
}

func TestExample(t *testing.T) { // the document's sixth and seventh: a Nack turns nothing; the same Ack twice
	s, text := session.New(backoff.Wait{Base: 2, Cap: 9}, 5).Tick(0)
	is(t, "a Subscribe of the epoch 1", text, subscribe(1, 5))
	s, o, _, _ := s.Take(offer(1, 6, 1, "x"))
	s, text = s.Done(o, api.ErrShort)
	is(t, "the Nack", text, nack(1, 5, 1, 3))
	is(t, "the Version", s.Version, 5)
	s, o, _, _ = s.Take(offer(1, 7, 2, "y"))
	s, text = s.Done(o, api.OK)
	is(t, "the Ack", text, ack(1, 7, 2))
	for range 3 {
		refuses(t, "once more", s, offer(1, 7, 2, "y"), ack(1, 7, 2), api.ErrTwice)
	}
	refuses(t, "the elder one once more", s, offer(1, 6, 1, "x"), "", api.ErrStale)
	_, text = s.Lost(10).Tick(12)
	is(t, "the Version in the next epoch", text, subscribe(2, 7))
}

func TestSessionsStay(t *testing.T) { // the rule of memory
	for _, s := range []session.Session{open(), {}, session.New(backoff.Wait{Base: 1, Cap: 2}, 3)} {
		was := s
		s.Tick(100)
		s.Lost(100)
		s.Take(offer(3, 1, 6, "x"))
		s.Take(offer(3, 1, 5, "x"))
		s.Done(session.Offer{Nonce: 5}, api.OK)
		is(t, "what was", s, was)
	}
}

// at: where a text lies.
func at(s string) *byte { return unsafe.StringData(s) }

func TestAnswersAreNew(t *testing.T) { // the rule of memory
	s := open()
	u, _ := s.Tick(0)
	v := s.Lost(0)
	w, _, reply, _ := s.Take(offer(3, 1, 5, "x"))
	x, _, _, _ := s.Take("x")
	y, _ := s.Done(session.Offer{}, api.OK)
	for i, r := range []string{u.Reply, v.Reply, w.Reply, reply, x.Reply, y.Reply} {
		is(t, "the Reply", r, "reply")
		if at(r) == at(s.Reply) || r != "reply" {
			t.Errorf("answer %d shares its Reply", i)
		}
	}
	if at(w.Reply) == at(reply) {
		t.Error("both of Take's are one")
	}
	s.Reply = ""
	z, text := s.Done(session.Offer{Nonce: 5}, api.OK)
	if at(z.Reply) == at(text) {
		t.Error("both of Done's are one")
	}
	message := offer(3, 1, 6, "body")
	_, o, _, _ := s.Take(message)
	if from, to := uintptr(unsafe.Pointer(at(message))), uintptr(unsafe.Pointer(at(o.Body))); from <= to && to < from+uintptr(len(message)) {
		t.Error("an offer's body lies in the message")
	}
}
