package session_test

import (
	"math/rand"
	"testing"

	"outrider/api"
	"outrider/backoff"
	"outrider/session"
)

// seen is a nonce of an epoch.
type seen struct{ epoch, nonce uint64 }

func TestEachNonceOnce(t *testing.T) { // P19.4
	r := rand.New(rand.NewSource(4))
	offers, twice, answered := 0, 0, 0
	for range 300 {
		s := session.New(backoff.Wait{Base: 1, Cap: 4}, r.Uint64())
		given := map[seen]int{}
		replies := map[seen]string{}
		var pending []session.Offer
		for now := range uint64(200) {
			switch r.Intn(6) {
			case 0:
				s, _ = s.Tick(now)
			case 1:
				if r.Intn(4) == 0 {
					s = s.Lost(now)
				}
			case 2: // of an offer that may be of an epoch ahead of this one
				if len(pending) > 0 {
					o := pending[r.Intn(len(pending))]
					at := seen{s.Epoch, o.Nonce}
					var text string
					s, text = s.Done(o, []api.Errno{api.OK, api.ErrForm}[r.Intn(2)])
					if text == "" {
						continue
					}
					if replies[at] != "" || given[at] != 1 {
						t.Fatalf("%v: offered %d times, answered %q, and now %q", at, given[at], replies[at], text)
					}
					replies[at] = text
					answered++
				}
			default:
				epoch, nonce := s.Epoch-uint64(r.Intn(2)), uint64(r.Intn(12))
				at := seen{epoch, nonce}
				was := s
				var o session.Offer
				var reply string
				var e api.Errno
				s, o, reply, e = s.Take(session.Message(session.Offered, epoch, "x", now, nonce))
				if e == api.OK {
					given[at]++
					offers++
					pending = append(pending, o)
				}
				if e == api.ErrTwice {
					twice++
				}
				if e != api.OK && s != was || given[at] > 1 || e == api.ErrTwice != (reply != "") || reply != "" && reply != replies[at] {
					t.Fatalf("%v: offered %d times, answered %q, and now %q, %v", at, given[at], replies[at], reply, e)
				}
			}
		}
	}
	if offers < 1000 || twice < 300 || answered < 500 {
		t.Errorf("only %d offers, %d answers, %d of them told once more", offers, answered, twice)
	}
}

// likely: numbers that meet one another.
func likely(r *rand.Rand) uint64 {
	return []uint64{0, 1, 2, 3, most - 1, most}[r.Intn(6)]
}

// anySession: one by hand.
func anySession(r *rand.Rand) session.Session {
	w := backoff.Wait{Base: likely(r), Cap: likely(r), Tries: r.Intn(70) - 3}
	s := session.Session{Epoch: likely(r), Version: likely(r), Nonce: likely(r), Next: likely(r), Open: r.Intn(3) > 0, Wait: w}
	if r.Intn(2) == 0 {
		s.Reply = "reply"
	}
	return s
}

// errorOf: what Take of an offer answers, by the chapter's words.
func errorOf(s session.Session, epoch, nonce uint64) api.Errno {
	switch {
	case !s.Open, epoch != s.Epoch, nonce < s.Nonce, nonce == s.Nonce && s.Reply == "":
		return api.ErrStale
	case nonce == s.Nonce:
		return api.ErrTwice
	}
	return api.OK
}

func TestAnySession(t *testing.T) { // P19.2, P19.3: of those by hand
	r := rand.New(rand.NewSource(5))
	for range 50000 {
		s := anySession(r)
		epoch, version, nonce, now := likely(r), likely(r), likely(r), likely(r)
		text := offer(epoch, version, nonce, "b")
		switch e := errorOf(s, epoch, nonce); e {
		case api.OK:
			then := s
			then.Nonce, then.Reply, then.Wait.Tries = nonce, "", 0
			takes(t, "Take", s, text, then, session.Offer{Version: version, Nonce: nonce, Body: "b"})
		case api.ErrTwice:
			refuses(t, "Take", s, text, "reply", e)
		default:
			refuses(t, "Take", s, text, "", e)
		}
		then, wanted := s, ""
		if !s.Open && now >= s.Next {
			then = session.Session{Epoch: s.Epoch, Version: s.Version, Next: s.Next, Open: true, Wait: s.Wait}
			if s.Epoch < most {
				then.Epoch++
			}
			wanted = subscribe(then.Epoch, s.Version)
		}
		u, got := s.Tick(now)
		is(t, "Tick", u, then)
		is(t, "Tick", got, wanted)
		then, wanted = s, ""
		if nonce == s.Nonce && nonce > 0 && s.Reply == "" {
			wanted = ack(s.Epoch, version, nonce)
			then.Version, then.Reply = version, wanted
		}
		u, got = s.Done(session.Offer{Version: version, Nonce: nonce, Body: "b"}, api.OK)
		is(t, "Done", u, then)
		is(t, "Done", got, wanted)
	}
}
