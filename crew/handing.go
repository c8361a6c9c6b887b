package crew

import (
	"outrider/api"
	"outrider/config"
	"outrider/diff"
	"outrider/handoff"
	"outrider/pipe"
	"outrider/proxy"
	"outrider/spot"
	"outrider/word"
)

// handing is a handoff that is on; the zero one is none, since numbers begin with 1.
type handing struct {
	parent, child uint64
	giver         handoff.Giver
	taker         handoff.Taker
}

// isOn: is there one?
func (h handing) isOn() bool { return h.child > 0 }

// begin: from the one that serves to the one that became Ready.
func (c *Crew) begin(parent, child, now uint64) {
	change := diff.Of(c.config(parent), c.config(child))
	c.epoch++
	c.handing = handing{
		parent: parent,
		child:  child,
		giver:  handoff.Give(c.epoch, change.Stay...),
		taker:  handoff.Taker{Epoch: c.epoch},
	}
	c.turn(parent, func(g proxy.Gen) proxy.Gen { return releasing(releasing(g, change.Go...), change.Stay...) })
	c.turn(child, func(g proxy.Gen) proxy.Gen { return owning(g, change.Come...) })
	c.send()
	c.end(now)
}

// send: a token of each place that isn't known to be taken.
func (c *Crew) send() {
	for _, text := range c.handing.giver.Messages() {
		c.pipe = c.pipe.Send(c.handing.child, text)
	}
}

// takes: something comes to the child.
func (c *Crew) takes(text string) {
	taker, p, answer, e := c.handing.taker.Take(text)
	c.handing.taker = taker
	if e == api.OK {
		c.turn(c.handing.child, func(g proxy.Gen) proxy.Gen { return owning(g, p) })
	}
	if answer != "" { // of a place that it took ahead of this, too, since what was answered then may be lost
		c.pipe = c.pipe.Send(c.handing.parent, answer)
	}
}

// gives: something comes to the parent.
func (c *Crew) gives(text string, now uint64) {
	c.handing.giver, _ = c.handing.giver.Take(text) // of what is no answer to it as it was
	c.end(now)
}

// end: once all is taken, the parent drains.
func (c *Crew) end(now uint64) {
	if !c.handing.giver.Done() {
		return
	}
	parent := c.handing.parent
	c.turn(parent, func(g proxy.Gen) proxy.Gen { return g.Turn(proxy.Draining) })
	c.deadlines[parent] = word.Add(now, c.drain)
	c.handing = handing{}
}

// breakOff: the one that is left of both has all of its places.
func (c *Crew) breakOff(left uint64) {
	c.handing = handing{}
	c.pipe = pipe.Pipe{}
	c.turn(left, owningAll)
}

// config: of one that lives.
func (c *Crew) config(id uint64) config.Config {
	i, _ := c.find(id)
	return c.gens[i].Config()
}

// owningAll: a generation with all of its listeners' places.
func owningAll(g proxy.Gen) proxy.Gen { return owning(g, diff.Places(g.Config())...) }

// owning: with these places, too; some it may own already.
func owning(g proxy.Gen, l ...spot.Place) proxy.Gen {
	for _, p := range l {
		g, _ = g.Own(p)
	}
	return g
}

// releasing: without these places.
func releasing(g proxy.Gen, l ...spot.Place) proxy.Gen {
	for _, p := range l {
		g, _ = g.Release(p)
	}
	return g
}
