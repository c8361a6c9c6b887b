package config

import "outrider/codec"

func writeConfig(c Config) codec.Value {
	return row(codec.Num(c.Version), list(c.Listeners, writeListener), list(c.Clusters, writeCluster))
}

func writeListener(l Listener) codec.Value {
	return row(text(l.Name), text(l.Place.Bytes()), list(l.Routes, writeRoute))
}

func writeRoute(r Route) codec.Value {
	return row(text(r.Host), text(r.Path), text(r.Cluster), codec.Num(r.Idle))
}

func writeCluster(x Cluster) codec.Value {
	return row(text(x.Name), list(x.Endpoints, writeEndpoint))
}

func writeEndpoint(e Endpoint) codec.Value {
	return row(text(e.Place.Bytes()), codec.Num(uint64(e.Weight)))
}

// list: a list's value, each element as one writes it.
func list[T any](l []T, one func(x T) codec.Value) codec.Value { return row(each(l, one)...) }

// text and row are values by hand: codec's Text and List copy what they are given, list by list once more, and a text that is far too long to be written may be great.

func text(s string) codec.Value { return codec.Value{Kind: codec.String, S: s} }

func row(l ...codec.Value) codec.Value { return codec.Value{Kind: codec.Row, L: l} }
