package handoff_test

import (
	"encoding/binary"
	"hash/crc32"
	"math"
	"slices"
	"testing"

	"outrider/api"
	"outrider/handoff"
	"outrider/spot"
)

const most = math.MaxUint64

func is[T comparable](t *testing.T, what string, got, wanted T) {
	t.Helper()
	if got != wanted {
		t.Errorf("%s: %.200v, wanted %.200v", what, got, wanted)
	}
}

// same: are two lists?
func same[T comparable](t *testing.T, what string, got, wanted []T) {
	t.Helper()
	if !slices.Equal(got, wanted) {
		t.Errorf("%s: %v, wanted %v", what, got, wanted)
	}
}

// framed: a frame by hand.
func framed(kind byte, epoch uint64, body string) string {
	b := append([]byte("OF\x01"), kind)
	b = binary.BigEndian.AppendUint64(b, epoch)
	b = append(binary.BigEndian.AppendUint32(b, uint32(len(body))), body...)
	return string(binary.LittleEndian.AppendUint32(b, crc32.Checksum(b, crc32.MakeTable(crc32.Castagnoli))))
}

// body: a place's six bytes by hand.
func body(p spot.Place) string {
	return string(append(p.IP[:len(p.IP):len(p.IP)], byte(p.Port>>8), byte(p.Port)))
}

func token(epoch uint64, p spot.Place) string { return framed(16, epoch, body(p)) }

func taken(epoch uint64, p spot.Place) string { return framed(17, epoch, body(p)) }

func at(a, b, c, d byte, port uint16) spot.Place {
	return spot.Place{IP: [4]byte{a, b, c, d}, Port: port}
}

// places: some, rising by numbers, not by texts, some of which meet.
func places() []spot.Place {
	return []spot.Place{
		at(0, 0, 0, 0, 1), at(0, 0, 0, 0, 80), at(0, 0, 0, 1, 80), at(9, 9, 9, 9, 65535), at(10, 0, 0, 0, 1), at(10, 0, 0, 0, 2),
		at(10, 0, 0, 0, 256), at(10, 0, 0, 0, 257), at(127, 0, 0, 1, 80), at(127, 0, 1, 0, 80), at(127, 1, 0, 0, 80), at(255, 255, 255, 255, 65535),
	}
}

// epochs: the ends of what may be, and some between.
func epochs() []uint64 { return []uint64{0, 1, 2, 255, 256, 1 << 32, 1 << 63, most - 1, most} }

// giver holds a giver to its epoch, and to what is given.
func giver(t *testing.T, what string, g handoff.Giver, epoch uint64, given ...spot.Place) {
	t.Helper()
	is(t, what+": the epoch", g.Epoch, epoch)
	same(t, what+": what is given", g.Given, given)
	is(t, what+": Done", g.Done(), len(given) == 0)
	var l []string
	for _, p := range given {
		l = append(l, token(epoch, p))
	}
	same(t, what+": Messages", g.Messages(), l)
}

// taker holds a taker to its epoch, and to what it took.
func taker(t *testing.T, what string, k handoff.Taker, epoch uint64, took ...spot.Place) {
	t.Helper()
	is(t, what+": the epoch", k.Epoch, epoch)
	same(t, what+": what it took", k.Took, took)
}

// wrong: texts that are no message of a handoff.
func wrong() map[string]string {
	p := places()[3]
	fine := token(7, p)
	l := map[string]string{
		"nothing":                 "",
		"other bytes":             "no message at all, of so many bytes",
		"a byte less":             fine[:len(fine)-1],
		"a byte more":             fine + "x",
		"two":                     fine + fine,
		"a byte ahead":            "x" + fine,
		"half of one":             fine[:len(fine)/2],
		"another sum":             fine[:len(fine)-1] + string(fine[len(fine)-1]^1),
		"no body":                 framed(16, 7, ""),
		"a body of five bytes":    framed(16, 7, body(p)[:5]),
		"a body of seven bytes":   framed(17, 7, body(p)+"x"),
		"a body of twelve bytes":  framed(17, 7, body(p)+body(p)),
		"a place's text":          framed(16, 7, p.Text()),
		"a token of the port 0":   token(7, at(1, 2, 3, 4, 0)),
		"a taken of the port 0":   taken(7, at(1, 2, 3, 4, 0)),
		"a token of the zero one": token(7, spot.Place{}),
		"the kind 0":              framed(0, 7, body(p)),
	}
	for kind := 1; kind < 256; kind++ {
		if kind != 16 && kind != 17 {
			l["the kind "+api.Errno(kind).Error()] = framed(byte(kind), 7, body(p))
		}
	}
	return l
}
