// Package cairnway: which versions a build takes: see DOC.md.
package cairnway

import (
	"cairnway/api"
	"cairnway/module"
	"cairnway/reach"
)

// Shelf has modules that are published.
type Shelf struct {
	// The entries are pointers, as storing under a key that is there would keep the caller's path in it.
	published map[module.Module]*entry
}

type entry struct {
	needs     []module.Module // in order
	retracted bool
}

// New gives a shelf (P3).
func New() *Shelf {
	return &Shelf{published: make(map[module.Module]*entry)}
}

// Publish publishes a module (P4).
func (s *Shelf) Publish(m api.Mod, needs []api.Mod) api.Errno {
	if len(needs) > api.MaxNeeds {
		return api.ErrMany
	}
	published, needed := module.Module(m), module.FromPlain(needs)
	if e := module.Check(append(needed, published)); e != api.OK {
		return e
	}
	if e := s.checkPlace(published); e != api.OK {
		return e
	}
	s.published[published.Own()] = &entry{needs: module.Ordered(needed)}
	return api.OK
}

func (s *Shelf) checkPlace(m module.Module) api.Errno {
	if s.published[m] != nil {
		return api.ErrThere
	}
	if len(s.published) >= api.MaxMods {
		return api.ErrFull
	}
	return api.OK
}

// Retract takes a module back (P5).
func (s *Shelf) Retract(m api.Mod) api.Errno {
	found := s.published[module.Module(m)]
	switch {
	case found == nil:
		return api.ErrNone
	case found.retracted:
		return api.ErrTwice
	}
	found.retracted = true
	return api.OK
}

// Latest tells the greatest version of a path (P6).
func (s *Shelf) Latest(path string) (int, api.Errno) {
	latest := 0
	for m, found := range s.published {
		if m.Path == path && !found.retracted {
			latest = max(latest, m.Version)
		}
	}
	if latest == 0 {
		return 0, api.ErrNone
	}
	return latest, api.OK
}

// Needs tells what a module needs (P6).
func (s *Shelf) Needs(m api.Mod) ([]api.Mod, api.Errno) {
	found := s.published[module.Module(m)]
	if found == nil {
		return nil, api.ErrNone
	}
	return module.ToPlain(found.needs), api.OK
}

// Build tells what a build takes (P7).
func (s *Shelf) Build(roots []api.Mod) ([]api.Mod, api.Errno, api.Mod) {
	ordered, e := checkRoots(roots)
	if e != api.OK {
		return nil, e, api.Mod{}
	}
	taken, e, missing := s.take(ordered)
	if e != api.OK {
		return nil, e, api.Mod(missing)
	}
	return module.ToPlain(taken), api.OK, api.Mod{}
}

// checkRoots gives the roots in order, with memory of their own, as answers are made of them.
func checkRoots(roots []api.Mod) ([]module.Module, api.Errno) {
	if len(roots) > api.MaxRoots {
		return nil, api.ErrMany
	}
	named := module.FromPlain(roots)
	if e := module.Check(named); e != api.OK {
		return nil, e
	}
	return module.Ordered(named), api.OK
}

// take tells what the roots build, or the first module in order that is missing for it.
func (s *Shelf) take(roots []module.Module) ([]module.Module, api.Errno, module.Module) {
	published, missing := reach.From(roots, s.tell)
	if len(missing) > 0 {
		return nil, api.ErrNone, missing[0]
	}
	return module.Greatest(published), api.OK, module.Module{}
}

func (s *Shelf) tell(m module.Module) ([]module.Module, bool) {
	found := s.published[m]
	if found == nil {
		return nil, false
	}
	return found.needs, true
}

// Why tells by which way a build comes to a path (P8).
func (s *Shelf) Why(roots []api.Mod, path string) ([]api.Mod, api.Errno) { return nil, api.OK }

// Tidy leaves out what need not be said (P9).
func (s *Shelf) Tidy(roots []api.Mod) ([]api.Mod, api.Errno) { return nil, api.OK }

// Upgrade asks for the greatest version of a path (P10).
func (s *Shelf) Upgrade(roots []api.Mod, path string) ([]api.Mod, api.Errno) { return nil, api.OK }

// Downgrade goes back, till a path has no greater version (P11).
func (s *Shelf) Downgrade(roots []api.Mod, m api.Mod) ([]api.Mod, api.Errno) { return nil, api.OK }
