package config

import (
	"outrider/api"
	"outrider/codec"
	"outrider/spot"
)

// reader reads values, and keeps whether one of them wasn't what a config has there.
type reader struct{ wrong bool }

func (r *reader) config(v codec.Value) Config {
	f := r.fields(v, 3)
	return Config{Version: r.number(f[0]), Listeners: read(r, f[1], r.listener), Clusters: read(r, f[2], r.cluster)}
}

func (r *reader) listener(v codec.Value) Listener {
	f := r.fields(v, 3)
	return Listener{Name: r.text(f[0]), Place: r.place(f[1]), Routes: read(r, f[2], r.route)}
}

func (r *reader) route(v codec.Value) Route {
	f := r.fields(v, 4)
	return Route{Host: r.text(f[0]), Path: r.text(f[1]), Cluster: r.text(f[2]), Idle: r.number(f[3])}
}

func (r *reader) cluster(v codec.Value) Cluster {
	f := r.fields(v, 2)
	return Cluster{Name: r.text(f[0]), Endpoints: read(r, f[1], r.endpoint)}
}

func (r *reader) endpoint(v codec.Value) Endpoint {
	f := r.fields(v, 2)
	return Endpoint{Place: r.place(f[0]), Weight: r.weight(f[1])}
}

// read: a list's elements, each as one reads it.
func read[T any](r *reader, v codec.Value, one func(v codec.Value) T) []T {
	return each(r.of(codec.Row, v).L, one)
}

// fields: the n values of a list; n that are nothing, where it hasn't as many.
func (r *reader) fields(v codec.Value, n int) []codec.Value {
	l := r.of(codec.Row, v).L
	if len(l) != n {
		r.wrong = true
		return make([]codec.Value, n)
	}
	return l
}

func (r *reader) number(v codec.Value) uint64 { return r.of(codec.Number, v).N }

func (r *reader) text(v codec.Value) string { return r.of(codec.String, v).S }

func (r *reader) place(v codec.Value) spot.Place {
	p, e := spot.Of(r.text(v))
	r.wrong = r.wrong || e != api.OK
	return p
}

func (r *reader) weight(v codec.Value) int {
	n := r.number(v)
	if n > maxWeight {
		r.wrong = true
		return 0
	}
	return int(n)
}

// of: a value of a kind; one that is nothing, where it isn't.
func (r *reader) of(kind int, v codec.Value) codec.Value {
	if v.Kind != kind {
		r.wrong = true
		return codec.Value{}
	}
	return v
}
