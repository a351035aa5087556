// Package cairnway: which versions a build takes: see DOC.md.
package cairnway

import (
	"slices"

	"cairnway/api"
	"cairnway/module"
	"cairnway/reach"
)

// Shelf has modules that are published.
type Shelf struct {
	// The entries are pointers, as storing under a key that is there would keep the caller's path in it.
	published map[module.Module]*entry
}

type entry struct {
	needs     []module.Module // in order
	retracted bool
}

// New gives a shelf (P3).
func New() *Shelf {
	return &Shelf{published: make(map[module.Module]*entry)}
}

// Publish publishes a module (P4).
func (s *Shelf) Publish(m api.Mod, needs []api.Mod) api.Errno {
	if len(needs) > api.MaxNeeds {
		return api.ErrMany
	}
	published, needed := module.Module(m), module.FromPlain(needs)
	if e := module.Check(append(needed, published)); e != api.OK {
		return e
	}
	if e := s.checkPlace(published); e != api.OK {
		return e
	}
	s.published[published.Own()] = &entry{needs: module.Ordered(needed)}
	return api.OK
}

func (s *Shelf) checkPlace(m module.Module) api.Errno {
	if s.published[m] != nil {
		return api.ErrThere
	}
	if len(s.published) >= api.MaxMods {
		return api.ErrFull
	}
	return api.OK
}

// Retract takes a module back (P5).
func (s *Shelf) Retract(m api.Mod) api.Errno {
	found := s.published[module.Module(m)]
	switch {
	case found == nil:
		return api.ErrNone
	case found.retracted:
		return api.ErrTwice
	}
	found.retracted = true
	return api.OK
}

// Latest tells the greatest version of a path (P6).
func (s *Shelf) Latest(path string) (int, api.Errno) {
	latest := 0
	for m, found := range s.published {
		if m.Path == path && !found.retracted {
			latest = max(latest, m.Version)
		}
	}
	if latest == 0 {
		return 0, api.ErrNone
	}
	return latest, api.OK
}

// Needs tells what a module needs (P6).
func (s *Shelf) Needs(m api.Mod) ([]api.Mod, api.Errno) {
	found := s.published[module.Module(m)]
	if found == nil {
		return nil, api.ErrNone
	}
	return module.ToPlain(found.needs), api.OK
}

// Build tells what a build takes (P7).
func (s *Shelf) Build(roots []api.Mod) ([]api.Mod, api.Errno, api.Mod) {
	reached, e := s.reachFrom(roots)
	switch e {
	case api.OK:
		return module.ToPlain(reached.Build()), api.OK, api.Mod{}
	case api.ErrNone:
		return nil, e, api.Mod(reached.Missing[0])
	}
	return nil, e, api.Mod{}
}

// reachFrom tells what the roots reach, and the error of Build: with ErrNone something of it is missing.
func (s *Shelf) reachFrom(roots []api.Mod) (reach.Reached, api.Errno) {
	ordered, e := checkRoots(roots)
	if e != api.OK {
		return reach.Reached{}, e
	}
	reached := reach.From(ordered, s.tell)
	if len(reached.Missing) > 0 {
		return reached, api.ErrNone
	}
	return reached, api.OK
}

// checkRoots gives the roots in order, with memory of their own, as answers are made of them.
func checkRoots(roots []api.Mod) ([]module.Module, api.Errno) {
	if len(roots) > api.MaxRoots {
		return nil, api.ErrMany
	}
	named := module.FromPlain(roots)
	if e := module.Check(named); e != api.OK {
		return nil, e
	}
	return module.Ordered(named), api.OK
}

func (s *Shelf) tell(m module.Module) ([]module.Module, bool) {
	found := s.published[m]
	if found == nil {
		return nil, false
	}
	return found.needs, true
}

// Why tells by which way a build comes to a path (P8).
func (s *Shelf) Why(roots []api.Mod, path string) ([]api.Mod, api.Errno) {
	reached, e := s.reachFrom(roots)
	if e != api.OK {
		return nil, e
	}
	taken, ok := reached.Taken(path)
	if !ok {
		return nil, api.ErrAbsent
	}
	return module.ToPlain(reached.Way(taken)), api.OK
}

// Tidy leaves out what need not be said (P9).
func (s *Shelf) Tidy(roots []api.Mod) ([]api.Mod, api.Errno) {
	reached, e := s.reachFrom(roots)
	if e != api.OK {
		return nil, e
	}
	left, built := reached.Roots, reached.Build()
	// What is left out stands behind the next one to ask about, whose place is the same then.
	for i := len(left) - 1; i >= 0; i-- {
		without := slices.Concat(left[:i], left[i+1:])
		// Fewer roots reach no more, so nothing is missing there either.
		if slices.Equal(reach.From(without, s.tell).Build(), built) {
			left = without
		}
	}
	return module.ToPlain(left), api.OK
}

// Upgrade asks for the greatest version of a path (P10).
func (s *Shelf) Upgrade(roots []api.Mod, path string) ([]api.Mod, api.Errno) {
	reached, e := s.reachFrom(roots)
	if e != api.OK {
		return nil, e
	}
	asked, ok := reached.Taken(path)
	if !ok {
		return nil, api.ErrAbsent
	}
	// Where all of the path is retracted this is 0, which is above nothing.
	latest, _ := s.Latest(path)
	if latest <= asked.Version {
		return module.ToPlain(reached.Roots), api.OK
	}
	asked.Version = latest
	upgraded := module.With(reached.Roots, asked)
	if len(upgraded) > api.MaxRoots {
		return nil, api.ErrMany
	}
	return module.ToPlain(upgraded), api.OK
}

// Downgrade goes back, till a path has no greater version (P11).
func (s *Shelf) Downgrade(roots []api.Mod, m api.Mod) ([]api.Mod, api.Errno) {
	reached, e := s.reachFrom(roots)
	if e != api.OK {
		return nil, e
	}
	most := module.Module(m)
	if e := module.Check([]module.Module{most}); e != api.OK {
		return nil, e
	}
	var downgraded []module.Module
	for _, root := range reached.Roots {
		if fitting, ok := s.goBack(root, most); ok {
			downgraded = append(downgraded, fitting)
		}
	}
	return module.ToPlain(downgraded), api.OK
}

// goBack tells the greatest published version of a root, not above its own, that fits.
func (s *Shelf) goBack(root, most module.Module) (module.Module, bool) {
	for tried := root; tried.Version >= 1; tried.Version-- {
		// What is not published does not fit either: there is no need to ask for its build.
		if s.published[tried] != nil && s.fits(tried, most) {
			return tried, true
		}
	}
	return module.Module{}, false
}

// fits tells if a build of a root alone has no error, and nothing of most's path above it.
func (s *Shelf) fits(root, most module.Module) bool {
	reached := reach.From([]module.Module{root}, s.tell)
	taken, ok := reached.Taken(most.Path)
	return len(reached.Missing) == 0 && (!ok || taken.Version <= most.Version)
}
