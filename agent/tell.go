package agent

import (
	"strings"

	"outrider/api"
	"outrider/cache"
	"outrider/crew"
	"outrider/session"
)

// Err: by which it is lost.
func (a *Agent) Err() api.Errno {
	if a == nil {
		return api.ErrNil
	}
	return a.err
}

// Crew: its own.
func (a *Agent) Crew() crew.Crew {
	if a == nil {
		return crew.Crew{}
	}
	return a.crew
}

// Session: its own.
func (a *Agent) Session() session.Session {
	if a == nil {
		return session.Session{}
	}
	s := a.session
	s.Reply = strings.Clone(s.Reply) // no answer shares memory with another one
	return s
}

// Cache: its own.
func (a *Agent) Cache() *cache.Cache {
	if a == nil {
		return nil
	}
	return a.cache
}

// Now: the tick.
func (a *Agent) Now() uint64 {
	if a == nil {
		return 0
	}
	return a.now
}

// Out: what goes out.
func (a *Agent) Out() []string {
	if a == nil {
		return nil
	}
	var l []string
	for _, text := range a.out {
		l = append(l, strings.Clone(text))
	}
	return l
}
