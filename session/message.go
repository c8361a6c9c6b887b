package session

import (
	"outrider/api"
	"outrider/codec"
	"outrider/frame"
)

// The kinds of messages.
const (
	Subscribe = iota + 1
	Offered
	Ack
	Nack
)

// Message: of numbers, and a body.
func Message(kind int, epoch uint64, body string, l ...uint64) string {
	s, _ := framed(kind, epoch, body, l...).Bytes() // empty, where there is no such frame
	return s
}

// Read: a message.
func Read(text string) (int, uint64, []uint64, string, api.Errno) {
	var v codec.Value
	var l []uint64
	var body string
	f, e := frame.Parse(text)
	if e != api.OK {
		goto none
	}
	v, e = codec.Get(f.Body)
	if e != api.OK {
		goto none
	}
	l, body = parts(v)
	if len(l) != numbers(f.Kind) {
		goto none
	}
	if framed(f.Kind, f.Epoch, body, l...) != f { // something else stands there, or in another order
		goto none
	}
	return f.Kind, f.Epoch, l, body, api.OK
none:
	return 0, 0, nil, "", api.ErrForm
}

// framed: a message's frame; the zero one, which can't be written, where a list couldn't be.
func framed(kind int, epoch uint64, body string, l ...uint64) frame.Frame {
	var row []codec.Value
	if len(l) > api.MaxBytes { // whatever they are; a value of each may be more than there is memory for
		return frame.Frame{}
	}
	for _, n := range l {
		row = append(row, codec.Num(n))
	}
	if kind == Offered {
		row = append(row, codec.Value{Kind: codec.String, S: body}) // by hand: codec's Text copies what is far too long, too
	}
	s, e := codec.Put(codec.Value{Kind: codec.Row, L: row})
	if e != api.OK {
		return frame.Frame{}
	}
	return frame.Frame{Kind: kind, Epoch: epoch, Body: s}
}

// parts: the numbers in a list, and the last text in it.
func parts(v codec.Value) ([]uint64, string) {
	var l []uint64
	var body string
	for _, w := range v.L {
		switch w.Kind {
		case codec.Number:
			l = append(l, w.N)
		case codec.String:
			body = w.S
		}
	}
	return l, body
}

// numbers: how many a message of a kind has; of no message's kind as many as no list has.
func numbers(kind int) int {
	switch kind {
	case Subscribe:
		return 1
	case Offered, Ack:
		return 2
	case Nack:
		return 3
	}
	return -1
}
