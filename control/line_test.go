package control_test

import (
	"math/rand"
	"slices"
	"testing"

	"outrider/api"
	"outrider/backoff"
	"outrider/config"
	"outrider/control"
	"outrider/session"
)

// model is a control by hand: each offer that was sent in this epoch, by its nonce.
type model struct {
	version uint64
	body    string
	offers  bool
	epoch   uint64
	sent    []string
	taken   []uint64
	refused []uint64
}

func (m *model) raw(version uint64, body string) string {
	m.version, m.body, m.offers = version, body, true
	if m.epoch == 0 {
		return ""
	}
	m.sent = append(m.sent, offer(m.epoch, version, uint64(len(m.sent)+1), body))
	return m.sent[len(m.sent)-1]
}

func (m *model) subscribe(epoch uint64) (string, api.Errno) {
	if epoch == 0 || epoch < m.epoch {
		return "", api.ErrStale
	}
	if epoch > m.epoch {
		m.epoch, m.sent = epoch, nil
		if m.offers {
			m.raw(m.version, m.body)
		}
	}
	if len(m.sent) == 0 {
		return "", api.OK
	}
	return m.sent[len(m.sent)-1], api.OK
}

func (m *model) answer(epoch, nonce uint64, at *[]uint64, l ...uint64) api.Errno {
	if epoch != m.epoch || nonce < 1 || nonce > uint64(len(m.sent)) {
		return api.ErrStale
	}
	*at = l
	return api.OK
}

func TestAgainstAModel(t *testing.T) { // P20.1 to P20.3
	r := rand.New(rand.NewSource(20))
	for range 300 {
		var c control.Control
		var m model
		for range 100 {
			epoch, nonce, version := m.epoch+uint64(r.Intn(3)), uint64(r.Intn(len(m.sent)+3)), r.Uint64()>>r.Intn(64)
			if epoch > 0 && r.Intn(3) > 0 {
				epoch--
			}
			was := c
			var got, wanted string
			var e, err api.Errno
			switch r.Intn(6) {
			case 0, 1:
				body := []string{"", "x", "yy"}[r.Intn(3)]
				c, got = c.Raw(version, body)
				wanted = m.raw(version, body)
			case 2:
				c, got, e = c.Take(subscribe(epoch, version))
				wanted, err = m.subscribe(epoch)
			case 3:
				c, got, e = c.Take(ack(epoch, version, nonce))
				err = m.answer(epoch, nonce, &m.taken, version)
			case 4:
				c, got, e = c.Take(nack(epoch, version, nonce, nonce))
				err = m.answer(epoch, nonce, &m.refused, version, nonce)
			case 5:
				c, got, e = c.Take(offer(epoch, version, nonce, ""))
				err = api.ErrKind
			}
			is(t, "the text", got, wanted)
			is(t, "the error", e, err)
			told(t, "then", c, m.version, m.epoch, m.taken, m.refused)
			if e != api.OK && c != was {
				t.Error("an error, and another control")
			}
			if t.Failed() {
				t.FailNow()
			}
		}
	}
}

// talk is a session and a control, with what is under way between both.
type talk struct {
	t       *testing.T
	r       *rand.Rand
	s       session.Session
	c       control.Control
	now     uint64
	up      []string // to the control
	down    []string // to the session
	last    string   // the body that was published last
	answers []string // what the agent answered to that
	told    bool     // has the control taken one of them?
}

func send(l []string, text string) []string {
	if text == "" {
		return l
	}
	return append(l, text)
}

// publish: a config more, which may be one that the agent refuses.
func (k *talk) publish(version uint64) {
	x := config.Config{Version: version}
	k.last, _ = x.Bytes()
	k.answers, k.told = nil, false
	c, text, e := k.c.Publish(x)
	is(k.t, "Publish", e, api.OK)
	k.c, k.down = c, send(k.down, text)
}

// verdict: what the agent says of a config.
func verdict(version uint64) api.Errno {
	if version%3 == 0 {
		return api.ErrForm
	}
	return api.OK
}

// hear: the session takes a text, and answers it.
func (k *talk) hear(text string) {
	s, o, reply, e := k.s.Take(text)
	if e == api.OK {
		s, reply = s.Done(o, verdict(o.Version))
		if o.Body == k.last {
			k.answers = append(k.answers, reply)
		}
	}
	k.s, k.up = s, send(k.up, reply)
}

// listen: the control takes a text.
func (k *talk) listen(text string) {
	c, reply, e := k.c.Take(text)
	k.c, k.down = c, send(k.down, reply)
	if e != api.OK || !slices.Contains(k.answers, text) {
		return
	}
	k.told = true
	if v, ok := c.Taken(); verdict(c.Version()) == api.OK && (!ok || v != c.Version()) {
		k.t.Errorf("version %d was taken, and the control tells %d, %v", c.Version(), v, ok)
	}
	if _, code, ok := c.Refused(); verdict(c.Version()) != api.OK && (!ok || code != uint64(api.ErrForm)) {
		k.t.Errorf("version %d was refused, and the control tells %d, %v", c.Version(), code, ok)
	}
}

// cut: one of what is under way, by chance.
func (k *talk) cut(l []string) (string, []string) {
	i := k.r.Intn(len(l))
	return l[i], slices.Delete(slices.Clone(l), i, i+1)
}

// step: something befalls a line, which loses, doubles and turns about.
func (k *talk) step(l *[]string, take func(text string)) {
	if len(*l) == 0 {
		return
	}
	text, rest := k.cut(*l)
	if k.r.Intn(4) > 0 {
		*l = rest
	}
	if k.r.Intn(3) > 0 {
		take(text)
	}
}

// tick: time goes by.
func (k *talk) tick() {
	k.now++
	s, text := k.s.Tick(k.now)
	k.s, k.up = s, send(k.up, text)
}

// deliver: all that is sent, in any order, till nothing is under way.
func (k *talk) deliver() {
	for len(k.up)+len(k.down) > 0 {
		if len(k.down) == 0 || len(k.up) > 0 && k.r.Intn(2) == 0 {
			text, rest := k.cut(k.up)
			k.up = rest
			k.listen(text)
			continue
		}
		text, rest := k.cut(k.down)
		k.down = rest
		k.hear(text)
	}
}

// befall: a bad line, and configs that come.
func (k *talk) befall(versions *uint64) {
	for range k.r.Intn(60) {
		switch k.r.Intn(8) {
		case 0:
			*versions++
			k.publish(*versions)
		case 1:
			k.s = k.s.Lost(k.now)
		case 2, 3:
			k.tick()
		case 4, 5:
			k.step(&k.up, k.listen)
		default:
			k.step(&k.down, k.hear)
		}
	}
}

func TestALineThatDeliversInTheEnd(t *testing.T) { // P20.4
	r := rand.New(rand.NewSource(21))
	taken, refused := 0, 0
	for range 3000 {
		k := &talk{t: t, r: r, s: session.New(backoff.Wait{Base: 1, Cap: 8}, 0)}
		versions := uint64(1 + r.Intn(100))
		k.publish(versions)
		k.befall(&versions)
		k.s = k.s.Lost(k.now) // what was lost on the bad line isn't sent again by itself
		for !k.s.Open {
			k.tick()
		}
		if r.Intn(2) == 0 {
			versions++
			k.publish(versions)
		}
		k.deliver()
		if !k.told {
			t.Fatalf("version %d: answered %d times, and the control knows nothing of it", versions, len(k.answers))
		}
		if verdict(versions) == api.OK {
			is(t, "the session's Version", k.s.Version, versions)
			taken++
			continue
		}
		is(t, "what was refused is the session's Version", k.s.Version == versions, false)
		refused++
	}
	if taken < 500 || refused < 500 {
		t.Errorf("only %d were taken, %d refused", taken, refused)
	}
}
