package session_test

import (
	"encoding/binary"
	"hash/crc32"
	"math"
	"slices"
	"testing"

	"outrider/api"
	"outrider/backoff"
	"outrider/session"
)

const most = math.MaxUint64

func is[T comparable](t *testing.T, what string, got, wanted T) {
	t.Helper()
	if got != wanted {
		t.Errorf("%s: %#.200v, wanted %#.200v", what, got, wanted)
	}
}

// framed: a frame of a body, by hand.
func framed(kind byte, epoch uint64, body string) string {
	b := append([]byte("OF\x01"), kind)
	b = binary.BigEndian.AppendUint64(b, epoch)
	b = binary.BigEndian.AppendUint32(b, uint32(len(body)))
	b = append(b, body...)
	return string(binary.LittleEndian.AppendUint32(b, crc32.Checksum(b, crc32.MakeTable(crc32.Castagnoli))))
}

// short: a number by sevens of bits.
func short(n int) string { return string(binary.AppendUvarint(nil, uint64(n))) }

func num(n uint64) string { return "\x01" + string(binary.AppendUvarint(nil, n)) }

func text(s string) string { return "\x02" + short(len(s)) + s }

func list(l ...string) string {
	s := "\x03" + short(len(l))
	for _, x := range l {
		s += x
	}
	return s
}

// Messages, by hand.

func subscribe(epoch, version uint64) string {
	return framed(1, epoch, list(num(version)))
}

func offer(epoch, version, nonce uint64, body string) string {
	return framed(2, epoch, list(num(version), num(nonce), text(body)))
}

func ack(epoch, version, nonce uint64) string {
	return framed(3, epoch, list(num(version), num(nonce)))
}

func nack(epoch, version, nonce, code uint64) string {
	return framed(4, epoch, list(num(version), num(nonce), num(code)))
}

// numbers: the ends of what may be, and some between.
func numbers() []uint64 {
	return []uint64{0, 1, 2, 127, 128, 300, 1<<32 + 5, 1 << 63, most - 1, most}
}

// message is what Read answers.
type message struct {
	kind  int
	epoch uint64
	l     []uint64
	body  string
}

func reads(t *testing.T, what, s string, wanted message) {
	t.Helper()
	kind, epoch, l, body, e := session.Read(s)
	if kind != wanted.kind || epoch != wanted.epoch || !slices.Equal(l, wanted.l) || body != wanted.body || e != api.OK {
		t.Errorf("%s: %d, %d, %v, %.40q, %v, wanted %.200v", what, kind, epoch, l, body, e, wanted)
	}
}

// none holds Read to a text that is no message.
func none(t *testing.T, what, s string) {
	t.Helper()
	kind, epoch, l, body, e := session.Read(s)
	if kind != 0 || epoch != 0 || len(l) != 0 || body != "" || e != api.ErrForm {
		t.Errorf("%s: %d, %d, %v, %.40q, %v", what, kind, epoch, l, body, e)
	}
}

// open: a session in its third epoch, that has answered the nonce 5.
func open() session.Session {
	return session.Session{Epoch: 3, Version: 20, Nonce: 5, Next: 70, Reply: "reply", Open: true, Wait: backoff.Wait{Base: 2, Cap: 100, Tries: 4}}
}

// takes holds Take to an offer that it takes.
func takes(t *testing.T, what string, s session.Session, text string, then session.Session, wanted session.Offer) session.Session {
	t.Helper()
	s, o, reply, e := s.Take(text)
	is(t, what+": the session", s, then)
	is(t, what+": the offer", o, wanted)
	is(t, what+": the reply", reply, "")
	is(t, what, e, api.OK)
	return s
}

// refuses holds Take to an error; the session is as it was.
func refuses(t *testing.T, what string, s session.Session, text, reply string, wanted api.Errno) {
	t.Helper()
	then, o, got, e := s.Take(text)
	is(t, what+": the session", then, s)
	is(t, what+": the offer", o, session.Offer{})
	is(t, what+": the reply", got, reply)
	is(t, what, e, wanted)
}
