package queue_test

import (
	"math"
	"math/rand"
	"slices"
	"testing"

	"outrider/api"
	"outrider/queue"
)

const most = math.MaxUint64

func is[T comparable](t *testing.T, what string, got, wanted T) {
	t.Helper()
	if got != wanted {
		t.Errorf("%s: %v, wanted %v", what, got, wanted)
	}
}

// holds: do those wait in a queue, in order, and has it room for so many more?
func holds(t *testing.T, what string, q queue.Queue, room int, ids ...uint64) {
	t.Helper()
	if got := q.All(); !slices.Equal(got, ids) {
		t.Errorf("%s: All: %v, wanted %v", what, got, ids)
	}
	is(t, what+": Len", q.Len(), len(ids))
	is(t, what+": Room", q.Room(), room)
}

// made: a queue that has room for so many in all, and of which those wait.
func made(t *testing.T, room int, ids ...uint64) queue.Queue {
	t.Helper()
	q, e := queue.New(room)
	is(t, "New", e, api.OK)
	for _, id := range ids {
		q, e = q.Put(id)
		is(t, "Put", e, api.OK)
	}
	return q
}

// upTo: the numbers from 1 on.
func upTo(n int) []uint64 {
	var l []uint64
	for i := range n {
		l = append(l, uint64(i)+1)
	}
	return l
}

func TestNew(t *testing.T) { // P23.1
	for _, room := range []int{0, 1, 2, 3, 63, 64} {
		q, e := queue.New(room)
		is(t, "New", e, api.OK)
		holds(t, "of New", q, room)
	}
	for _, room := range []int{-1, -64, 65, 66, 128, 1 << 32, 1<<32 + 1, math.MinInt, math.MaxInt} {
		q, e := queue.New(room)
		is(t, "New", e, api.ErrRange)
		holds(t, "beside ErrRange", q, 0)
	}
}

func TestZero(t *testing.T) { // P23.1: the zero queue has no room
	var zero queue.Queue
	holds(t, "the zero one", zero, 0)
	for _, id := range []uint64{0, 1, most} {
		q, e := zero.Put(id)
		is(t, "Put", e, api.ErrFull)
		holds(t, "beside ErrFull", q, 0)
		_, ok := zero.Drop(id)
		is(t, "Drop", ok, false)
	}
	_, id, ok := zero.Take()
	is(t, "Take", id == 0 && !ok, true)
	joined, left := queue.Join(zero, made(t, 3, 5, 4))
	holds(t, "Join of the zero one", joined, 0)
	is(t, "left over", slices.Equal(left, []uint64{5, 4}), true)
	joined, left = queue.Join(zero, zero)
	holds(t, "Join of the zero one and itself", joined, 0)
	is(t, "left over of nobody", len(left), 0)
}

func TestPut(t *testing.T) { // P23.1
	q := made(t, 5)
	var waiting []uint64
	for i, id := range []uint64{7, 0, most, 1 << 32, 8} {
		var e api.Errno
		q, e = q.Put(id)
		waiting = append(waiting, id)
		is(t, "Put", e, api.OK)
		holds(t, "behind all others", q, 4-i, waiting...)
	}
	for _, room := range []int{0, 1, 63, 64} {
		q := made(t, room, upTo(room)...)
		holds(t, "a full one", q, 0, upTo(room)...)
		full, e := q.Put(99)
		is(t, "Put to a full one", e, api.ErrFull)
		holds(t, "beside ErrFull", full, 0, upTo(room)...)
	}
}

func TestPutTwice(t *testing.T) { // P23.1: ErrTwice is told ahead of ErrFull
	for _, room := range []int{3, 4, 64} {
		q := made(t, room, 5, 0, most)
		for _, id := range []uint64{5, 0, most} {
			same, e := q.Put(id)
			is(t, "Put of one that waits", e, api.ErrTwice)
			holds(t, "beside ErrTwice", same, room-3, 5, 0, most)
		}
	}
	q, _, _ := made(t, 2, 5, 6).Take()
	q, e := q.Put(5)
	is(t, "Put of one that was taken", e, api.OK)
	holds(t, "taken and put", q, 0, 6, 5)
	q, _ = q.Drop(6)
	q, e = q.Put(6)
	is(t, "Put of one that was dropped", e, api.OK)
	holds(t, "dropped and put", q, 0, 5, 6)
}

func TestTake(t *testing.T) { // P23.1, P23.3
	q := made(t, 4, 9, 0, most)
	for i, wanted := range []uint64{9, 0, most} {
		var id uint64
		var ok bool
		q, id, ok = q.Take()
		is(t, "the first", id, wanted)
		is(t, "is one there", ok, true)
		holds(t, "without the first", q, 2+i, []uint64{9, 0, most}[i+1:]...)
	}
	for _, room := range []int{0, 1, 64} {
		none, id, ok := made(t, room).Take()
		is(t, "who is taken, where none waits", id, 0)
		is(t, "is one taken, where none waits", ok, false)
		holds(t, "beside a false", none, 0)
	}
}

func TestDrop(t *testing.T) { // P23.1
	ids := []uint64{9, 0, most, 4}
	q := made(t, 6, ids...)
	for i, id := range ids {
		without, ok := q.Drop(id)
		is(t, "Drop", ok, true)
		holds(t, "without it", without, 3, slices.Delete(slices.Clone(ids), i, i+1)...)
		_, ok = without.Drop(id)
		is(t, "Drop once more", ok, false)
	}
	for _, id := range []uint64{1, 5, 1 << 63, most - 1} {
		none, ok := q.Drop(id)
		is(t, "Drop of one that doesn't wait", ok, false)
		holds(t, "beside a false", none, 0)
	}
	q, ok := made(t, 1, 7).Drop(7)
	is(t, "Drop of the only one", ok, true)
	holds(t, "without the only one", q, 1)
	_, ok = made(t, 3).Drop(0)
	is(t, "Drop, where none waits", ok, false)
}

func TestJoin(t *testing.T) { // P23.2
	for _, c := range []struct {
		room         int
		a, b         []uint64
		wanted, left []uint64
	}{
		{5, []uint64{1, 2}, []uint64{3, 4}, []uint64{1, 2, 3, 4}, nil},
		{4, []uint64{1, 2}, []uint64{3, 4}, []uint64{1, 2, 3, 4}, nil},
		{3, []uint64{1, 2}, []uint64{3, 4}, []uint64{1, 2, 3}, []uint64{4}},
		{2, []uint64{1, 2}, []uint64{3, 4}, []uint64{1, 2}, []uint64{3, 4}},
		{3, []uint64{8}, []uint64{7, 8}, []uint64{8, 7}, []uint64{8}},
		{3, []uint64{1, 2}, []uint64{2, 3, 1}, []uint64{1, 2, 3}, []uint64{2, 1}},
		{3, []uint64{1, 2}, []uint64{3, 2, 4, 1}, []uint64{1, 2, 3}, []uint64{2, 4, 1}}, // both kinds, in order
		{4, []uint64{1, 2}, []uint64{2, 1}, []uint64{1, 2}, []uint64{2, 1}},
		{2, []uint64{1, 2}, []uint64{1, 2}, []uint64{1, 2}, []uint64{1, 2}},
		{0, nil, []uint64{2, 1}, nil, []uint64{2, 1}},
		{1, nil, []uint64{2, 1}, []uint64{2}, []uint64{1}},
		{2, nil, []uint64{most, 0}, []uint64{most, 0}, nil},
		{2, []uint64{1}, nil, []uint64{1}, nil},
		{64, upTo(60), []uint64{99, 98, 60, 97, 96, 95, 1}, append(upTo(60), 99, 98, 97, 96), []uint64{60, 95, 1}},
		{64, upTo(64), []uint64{65}, upTo(64), []uint64{65}},
	} {
		joined, left := queue.Join(made(t, c.room, c.a...), made(t, max(len(c.b), 1), c.b...))
		holds(t, "Join", joined, c.room-len(c.wanted), c.wanted...) // a's room, not b's
		if !slices.Equal(left, c.left) {
			t.Errorf("Join of %v and %v, with room for %d: %v are left over, wanted %v", c.a, c.b, c.room, left, c.left)
		}
	}
	q := made(t, 3, 5, 6)
	joined, left := queue.Join(q, q)
	holds(t, "Join of one and itself", joined, 1, 5, 6)
	is(t, "left over", slices.Equal(left, []uint64{5, 6}), true)
}

func TestAnswersAreNew(t *testing.T) { // the rule on memory: queues stay as they were
	a, b := made(t, 8, 1, 2, 3), made(t, 4, 3, 4, 5, 6)
	x, _ := a.Put(10)
	y, _ := a.Put(11)
	first, _, _ := x.Take()
	p, _ := first.Put(12)
	r, _ := x.Drop(2)
	s, _ := r.Put(13)
	j, left := queue.Join(a, b)
	k, _ := queue.Join(a, made(t, 1, 14))
	j2, _ := j.Put(15)
	for _, q := range []queue.Queue{a, b, x, y, first, p, r, s, j, k, j2} {
		l := q.All()
		for i := range l {
			l[i] = 99
		}
	}
	again := slices.Clone(left)
	left[0] = 99
	holds(t, "a", a, 5, 1, 2, 3)
	holds(t, "b", b, 0, 3, 4, 5, 6)
	holds(t, "one more", x, 4, 1, 2, 3, 10)
	holds(t, "another one more", y, 4, 1, 2, 3, 11)
	holds(t, "without the first", first, 5, 2, 3, 10)
	holds(t, "one more behind that", p, 4, 2, 3, 10, 12)
	holds(t, "without one", r, 5, 1, 3, 10)
	holds(t, "one more behind that", s, 4, 1, 3, 10, 13)
	holds(t, "joined", j, 2, 1, 2, 3, 4, 5, 6)
	holds(t, "joined with another", k, 4, 1, 2, 3, 14)
	holds(t, "one more behind those joined", j2, 1, 1, 2, 3, 4, 5, 6, 15)
	_, left = queue.Join(a, b)
	is(t, "who is left over", slices.Equal(left, again), true)
}

// A model by hand: who waits, and for how many there is room in all.
type model struct {
	ids  []uint64
	room int
}

func (m *model) put(id uint64) api.Errno {
	switch {
	case slices.Contains(m.ids, id):
		return api.ErrTwice
	case len(m.ids) == m.room:
		return api.ErrFull
	}
	m.ids = append(m.ids, id)
	return api.OK
}

func (m *model) drop(id uint64) bool {
	had := len(m.ids)
	m.ids = slices.DeleteFunc(m.ids, func(x uint64) bool { return x == id })
	return len(m.ids) < had
}

func (m *model) join(ids []uint64) []uint64 {
	var left []uint64
	for _, id := range ids {
		if m.put(id) != api.OK {
			left = append(left, id)
		}
	}
	return left
}

// step does one thing by chance, to a queue and to the model, and answers the queue then.
func step(t *testing.T, r *rand.Rand, q queue.Queue, m *model) queue.Queue {
	t.Helper()
	id := uint64(r.Intn(m.room + 3))
	switch r.Intn(8) {
	default:
		next, e := q.Put(id)
		is(t, "Put", e, m.put(id))
		return next
	case 0, 1:
		next, got, ok := q.Take()
		is(t, "is one taken", ok, len(m.ids) > 0)
		if !ok {
			is(t, "who is taken", got, 0)
			return q
		}
		is(t, "who is taken", got, m.ids[0])
		m.ids = m.ids[1:]
		return next
	case 2, 3:
		next, ok := q.Drop(id)
		is(t, "Drop", ok, m.drop(id))
		if !ok {
			return q
		}
		return next
	case 4:
		other := queue.Queue{}
		if r.Intn(2) == 0 {
			other = made(t, 5, id+1, id, id+7)
		}
		next, left := queue.Join(q, other)
		if wanted := m.join(other.All()); !slices.Equal(left, wanted) {
			t.Errorf("Join: %v are left over, wanted %v", left, wanted)
		}
		return next
	}
}

func TestByChance(t *testing.T) { // P23.1, P23.2, P23.3
	r := rand.New(rand.NewSource(23))
	for n := range 600 {
		m := &model{room: []int{0, 1, 2, 5, 64}[n%5]}
		q := made(t, m.room)
		for range 200 {
			q = step(t, r, q, m)
			holds(t, "by chance", q, m.room-len(m.ids), m.ids...)
		}
		if t.Failed() {
			return
		}
	}
}

func TestNobodyWaitsTwice(t *testing.T) { // P23.3
	r := rand.New(rand.NewSource(24))
	for range 200 {
		m := &model{room: 1 + r.Intn(8)}
		q := made(t, m.room)
		for range 100 {
			q = step(t, r, q, m)
			l := q.All()
			slices.Sort(l)
			is(t, "how many unlike ones wait", len(slices.Compact(l)), q.Len())
		}
		var out []uint64
		in := q.All()
		for q.Len() > 0 {
			var id uint64
			q, id, _ = q.Take()
			out = append(out, id)
		}
		is(t, "who is put first is taken first", slices.Equal(in, out), true)
	}
}
