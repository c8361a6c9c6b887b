package control_test

import (
	"encoding/binary"
	"hash/crc32"
	"math"
	"slices"
	"strings"
	"testing"

	"outrider/api"
	"outrider/config"
	"outrider/control"
	"outrider/spot"
)

const most = math.MaxUint64

func is[T comparable](t *testing.T, what string, got, wanted T) {
	t.Helper()
	if got != wanted {
		t.Errorf("%s: %#.200v, wanted %#.200v", what, got, wanted)
	}
}

// framed: a message by hand: of numbers, and a text, where there is one.
func framed(kind byte, epoch uint64, body []string, l ...uint64) string {
	row := []byte{3, byte(len(l) + len(body))}
	for _, n := range l {
		row = binary.AppendUvarint(append(row, 1), n)
	}
	for _, s := range body {
		row = append(binary.AppendUvarint(append(row, 2), uint64(len(s))), s...)
	}
	b := append([]byte("OF\x01"), kind)
	b = binary.BigEndian.AppendUint64(b, epoch)
	b = append(binary.BigEndian.AppendUint32(b, uint32(len(row))), row...)
	return string(binary.LittleEndian.AppendUint32(b, crc32.Checksum(b, crc32.MakeTable(crc32.Castagnoli))))
}

func subscribe(epoch, version uint64) string { return framed(1, epoch, nil, version) }

func offer(epoch, version, nonce uint64, body string) string {
	return framed(2, epoch, []string{body}, version, nonce)
}

func ack(epoch, version, nonce uint64) string { return framed(3, epoch, nil, version, nonce) }

func nack(epoch, version, nonce, code uint64) string {
	return framed(4, epoch, nil, version, nonce, code)
}

// numbers: the ends of what may be, and some between.
func numbers() []uint64 { return []uint64{0, 1, 2, 127, 128, 300, 1 << 63, most - 1, most} }

// takes holds Take to a text, and answers the control then.
func takes(t *testing.T, what string, c control.Control, text, wanted string) control.Control {
	t.Helper()
	c, got, e := c.Take(text)
	is(t, what+": the text", got, wanted)
	is(t, what, e, api.OK)
	return c
}

// refuses holds Take to an error; the control is as it was.
func refuses(t *testing.T, what string, c control.Control, text string, wanted api.Errno) {
	t.Helper()
	then, got, e := c.Take(text)
	is(t, what+": the control", then, c)
	is(t, what+": the text", got, "")
	is(t, what, e, wanted)
}

// told holds a control to what it tells.
func told(t *testing.T, what string, c control.Control, version, epoch uint64, taken, refused []uint64) {
	t.Helper()
	is(t, what+": Version", c.Version(), version)
	is(t, what+": Epoch", c.Epoch(), epoch)
	var l []uint64
	v, ok := c.Taken()
	if ok {
		l = append(l, v)
	}
	if !slices.Equal(l, taken) || !ok && v != 0 {
		t.Errorf("%s: Taken: %d, %v, wanted %d", what, v, ok, taken)
	}
	l = nil
	v, code, ok := c.Refused()
	if ok {
		l = append(l, v, code)
	}
	if !slices.Equal(l, refused) || !ok && (v != 0 || code != 0) {
		t.Errorf("%s: Refused: %d, %d, %v, wanted %d", what, v, code, ok, refused)
	}
}

// subscribed: a control that offers a version in the epoch 3, and has sent so many offers there.
func subscribed(t *testing.T, version, offers uint64) control.Control {
	t.Helper()
	var c control.Control
	c = takes(t, "Subscribe", c, subscribe(3, 0), "")
	for n := range offers {
		var text string
		c, text = c.Raw(version, "x")
		is(t, "Raw", text, offer(3, version, n+1, "x"))
	}
	return c
}

func TestZero(t *testing.T) { // P20.2, P20.3: the zero one offers nothing
	var c control.Control
	told(t, "of the zero one", c, 0, 0, nil, nil)
	told(t, "of the zero one, subscribed", takes(t, "a Subscribe", c, subscribe(7, 9), ""), 0, 7, nil, nil)
	refuses(t, "a Subscribe of 0", c, subscribe(0, 9), api.ErrStale)
	for _, epoch := range numbers() {
		for _, nonce := range numbers() {
			refuses(t, "an Ack", c, ack(epoch, 1, nonce), api.ErrStale)
			refuses(t, "a Nack", c, nack(epoch, 1, nonce, 9), api.ErrStale)
			refuses(t, "an Offer", c, offer(epoch, 1, nonce, "x"), api.ErrKind)
		}
	}
}

func TestRaw(t *testing.T) { // P20.1
	var c control.Control
	for _, version := range []uint64{4, 0, 9, most, 2} {
		var text string
		c, text = c.Raw(version, "x")
		is(t, "nobody has subscribed", text, "")
		told(t, "nobody has subscribed", c, version, 0, nil, nil)
	}
	c = takes(t, "the last of them", c, subscribe(5, 0), offer(5, 2, 1, "x"))
	for i, body := range []string{"", "a", "\x00\xff", strings.Repeat("y", 8000), "a", "a"} {
		for _, version := range numbers() {
			d, text := c.Raw(version, body)
			is(t, "Raw", text, offer(5, version, uint64(i)+2, body))
			told(t, "Raw", d, version, 5, nil, nil)
		}
		c, _ = c.Raw(7, body)
	}
	c = takes(t, "the next epoch", c, subscribe(6, 0), offer(6, 7, 1, "a"))
	c, text := c.Raw(8, "b")
	is(t, "Raw in the next epoch", text, offer(6, 8, 2, "b"))
	takes(t, "an epoch behind that", c, subscribe(most, 0), offer(most, 8, 1, "b"))
}

func TestManyNonces(t *testing.T) { // P20.1: the next one each
	c := subscribed(t, 1, 0)
	for n := uint64(1); n <= 400; n++ {
		var text string
		c, text = c.Raw(n, "")
		is(t, "Raw", text, offer(3, n, n, ""))
	}
	c = takes(t, "the first", c, ack(3, 1, 1), "")
	c = takes(t, "the last", c, ack(3, 2, 400), "")
	refuses(t, "the one behind it", c, ack(3, 3, 401), api.ErrStale)
}

func TestRawWithoutRoom(t *testing.T) { // P20.1, P20.2: the empty text, and its nonce counts as sent
	body := strings.Repeat("x", api.MaxBytes-9)
	c := subscribed(t, 1, 1)
	d, text := c.Raw(7, body)
	is(t, "just room", text, offer(3, 7, 2, body))
	d, text = c.Raw(7, body+"x")
	is(t, "without room", text, "")
	told(t, "without room", d, 7, 3, nil, nil)
	d = takes(t, "the same epoch", d, subscribe(3, 0), "")
	d = takes(t, "a Nack of its nonce", d, nack(3, 1, 2, 5), "")
	told(t, "a Nack of its nonce", d, 7, 3, nil, []uint64{1, 5})
	refuses(t, "a nonce behind it", d, ack(3, 7, 3), api.ErrStale)
	e, text := d.Raw(8, "y")
	is(t, "the next one", text, offer(3, 8, 3, "y"))
	takes(t, "the next one once more", e, subscribe(3, 0), text)
	d = takes(t, "a new epoch", d, subscribe(4, 0), "")
	d = takes(t, "an Ack of its nonce there", d, ack(4, 7, 1), "")
	refuses(t, "a nonce behind it there", d, ack(4, 7, 2), api.ErrStale)
	_, text = d.Raw(8, "y")
	is(t, "the next one there", text, offer(4, 8, 2, "y"))
	c, text = c.Raw(7, strings.Repeat("x", 1<<20))
	is(t, "without room by far", text, "")
	told(t, "without room by far", c, 7, 3, nil, nil)
	var none control.Control
	none, text = none.Raw(128, body) // a longer version
	is(t, "nobody has subscribed", text, "")
	none = takes(t, "without room in the first epoch", none, subscribe(1, 0), "")
	takes(t, "its nonce", none, ack(1, 128, 1), "")
}

// fine: a config that is.
func fine(version uint64) config.Config {
	return config.Config{
		Version:   version,
		Listeners: []config.Listener{{Name: "main", Place: spot.Place{Port: 80}, Routes: []config.Route{{Host: "a.b", Path: "/", Cluster: "web"}}}},
		Clusters:  []config.Cluster{{Name: "web", Endpoints: []config.Endpoint{{Place: spot.Place{IP: [4]byte{10}, Port: 8080}, Weight: 1}}}},
	}
}

func TestPublish(t *testing.T) { // P20.1
	notFine := fine(9)
	notFine.Listeners[0].Routes[0].Cluster = "none"
	for _, x := range []config.Config{fine(4), fine(0), fine(most), {}, notFine} {
		body, _ := x.Bytes()
		var c control.Control
		c, text, e := c.Publish(x)
		is(t, "nobody has subscribed", text, "")
		is(t, "nobody has subscribed", e, api.OK)
		told(t, "nobody has subscribed", c, x.Version, 0, nil, nil)
		takes(t, "a Subscribe", c, subscribe(1, 0), offer(1, x.Version, 1, body))
		c, text, e = subscribed(t, 8, 2).Publish(x)
		is(t, "Publish", text, offer(3, x.Version, 3, body))
		is(t, "Publish", e, api.OK)
		told(t, "Publish", c, x.Version, 3, nil, nil)
		raw, _ := subscribed(t, 8, 2).Raw(x.Version, body)
		is(t, "as by Raw", c, raw)
	}
}

func TestPublishErrors(t *testing.T) { // P20.1: layer 9's, and the control as it was
	many, below, long := fine(9), fine(9), fine(9)
	many.Clusters = make([]config.Cluster, 9)
	below.Clusters[0].Endpoints[0].Weight = -1
	long.Listeners[0].Name = strings.Repeat("x", api.MaxBytes)
	for _, c := range []control.Control{{}, subscribed(t, 8, 0), subscribed(t, 8, 2)} {
		for _, x := range []struct {
			c config.Config
			e api.Errno
		}{{many, api.ErrMany}, {below, api.ErrRange}, {long, api.ErrLong}} {
			then, text, e := c.Publish(x.c)
			is(t, "refused", then, c)
			is(t, "refused", text, "")
			is(t, "refused", e, x.e)
		}
	}
}

func TestPublishWithoutRoom(t *testing.T) { // P20.1: a config may have its bytes, and these no room in a message
	x := fine(9)
	body, _ := x.Bytes()
	x.Listeners[0].Routes[0].Path += strings.Repeat("p", api.MaxBytes-len(body)-1)
	body, e := x.Bytes()
	is(t, "its bytes", e, api.OK)
	if len(body) <= api.MaxBytes-9 {
		t.Fatalf("%d bytes have room", len(body))
	}
	c, text, e := subscribed(t, 8, 2).Publish(x)
	is(t, "without room", text, "")
	is(t, "without room", e, api.OK)
	told(t, "without room", c, 9, 3, nil, nil)
	takes(t, "its nonce", c, nack(3, 8, 3, 1), "")
	_, text = c.Raw(1, "y")
	is(t, "the next one", text, offer(3, 1, 4, "y"))
}

func TestTakeSubscribe(t *testing.T) { // P20.2
	c := subscribed(t, 8, 2)
	for _, version := range numbers() { // the version that somebody has makes no difference
		is(t, "the last epoch", takes(t, "the last epoch", c, subscribe(3, version), offer(3, 8, 2, "x")), c)
		d := takes(t, "an epoch above", c, subscribe(4, version), offer(4, 8, 1, "x"))
		told(t, "an epoch above", d, 8, 4, nil, nil)
		is(t, "that once more", takes(t, "that once more", d, subscribe(4, version), offer(4, 8, 1, "x")), d)
		refuses(t, "an elder one", d, subscribe(3, version), api.ErrStale)
		refuses(t, "an elder one", c, subscribe(2, version), api.ErrStale)
		refuses(t, "an elder one", c, subscribe(1, version), api.ErrStale)
		refuses(t, "the epoch 0", c, subscribe(0, version), api.ErrStale)
	}
	for _, epoch := range []uint64{4, 5, 300, 1 << 63, most} {
		d := takes(t, "far above", c, subscribe(epoch, 0), offer(epoch, 8, 1, "x"))
		refuses(t, "the nonces begin anew", d, ack(epoch, 8, 2), api.ErrStale)
		_, text := d.Raw(9, "y")
		is(t, "the nonces begin anew", text, offer(epoch, 9, 2, "y"))
	}
	nothing := subscribed(t, 8, 0)
	is(t, "nothing to offer", takes(t, "nothing to offer", nothing, subscribe(3, 0), ""), nothing)
	told(t, "nothing to offer", takes(t, "nothing to offer", nothing, subscribe(4, 0), ""), 0, 4, nil, nil)
	empty, _ := nothing.Raw(0, "")
	takes(t, "the version 0, and no body", empty, subscribe(3, 0), offer(3, 0, 1, ""))
	takes(t, "the version 0, and no body", empty, subscribe(4, 0), offer(4, 0, 1, ""))
}

func TestTakeAnswers(t *testing.T) { // P20.2, P20.3
	for _, version := range numbers() { // whatever was offered
		c := subscribed(t, 8, 3)
		for nonce := uint64(1); nonce <= 3; nonce++ {
			d := takes(t, "an Ack", c, ack(3, version, nonce), "")
			told(t, "an Ack", d, 8, 3, []uint64{version}, nil)
			for _, code := range numbers() {
				e := takes(t, "a Nack", c, nack(3, version, nonce, code), "")
				told(t, "a Nack", e, 8, 3, nil, []uint64{version, code})
				e = takes(t, "a Nack behind an Ack", d, nack(3, 1, nonce, code), "")
				told(t, "a Nack behind an Ack", e, 8, 3, []uint64{version}, []uint64{1, code})
				told(t, "an Ack behind that", takes(t, "", e, ack(3, 2, 1), ""), 8, 3, []uint64{2}, []uint64{1, code})
				e = takes(t, "a new epoch", e, subscribe(4, 0), offer(4, 8, 1, "x"))
				told(t, "both in a new epoch", e, 8, 4, []uint64{version}, []uint64{1, code})
			}
			is(t, "the same once more", takes(t, "the same once more", d, ack(3, version, nonce), ""), d)
		}
		for _, nonce := range []uint64{0, 4, 5, 300, most} {
			refuses(t, "an Ack of what wasn't sent", c, ack(3, version, nonce), api.ErrStale)
			refuses(t, "a Nack of what wasn't sent", c, nack(3, version, nonce, 9), api.ErrStale)
		}
		for _, epoch := range []uint64{0, 1, 2, 4, 5, most} {
			refuses(t, "an Ack of another epoch", c, ack(epoch, version, 1), api.ErrStale)
			refuses(t, "a Nack of another epoch", c, nack(epoch, version, 1, 9), api.ErrStale)
		}
	}
}

func TestTakeErrors(t *testing.T) { // P20.2
	for _, c := range []control.Control{{}, subscribed(t, 8, 0), subscribed(t, 8, 2), takes(t, "", subscribed(t, 8, 2), ack(3, 5, 1), "")} {
		for what, text := range map[string]string{
			"no text":               "",
			"a letter":              "x",
			"half of one":           subscribe(9, 1)[:20],
			"one and a rest":        subscribe(9, 1) + "x",
			"two":                   subscribe(9, 1) + subscribe(9, 1),
			"another kind":          framed(5, 9, nil, 1),
			"a Subscribe of two":    framed(1, 9, nil, 1, 2),
			"an Ack of one":         framed(3, 3, nil, 1),
			"an Ack with a text":    framed(3, 3, []string{""}, 1, 1),
			"a Nack of two":         framed(4, 3, nil, 1, 1),
			"an Offer without text": framed(2, 3, nil, 1, 1),
		} {
			refuses(t, what, c, text, api.ErrForm)
		}
		for _, epoch := range numbers() {
			refuses(t, "an Offer", c, offer(epoch, 1, 1, "x"), api.ErrKind)
		}
		refuses(t, "its own Offer", c, offer(3, 8, 2, "x"), api.ErrKind)
	}
}

func TestControlsStay(t *testing.T) { // the rule of memory
	for _, c := range []control.Control{{}, subscribed(t, 8, 0), subscribed(t, 8, 2), takes(t, "", subscribed(t, 8, 2), nack(3, 5, 1, 6), "")} {
		was := c
		version, epoch := c.Version(), c.Epoch()
		c.Raw(1, "y")
		c.Publish(fine(7))
		c.Take(subscribe(9, 1))
		c.Take(ack(3, 1, 1))
		c.Take(nack(3, 1, 1, 1))
		is(t, "what was", c, was)
		is(t, "its Version", c.Version(), version)
		is(t, "its Epoch", c.Epoch(), epoch)
	}
	x := fine(7)
	subscribed(t, 8, 2).Publish(x)
	if !config.Same(x, fine(7)) {
		t.Error("Publish changes the config")
	}
}
