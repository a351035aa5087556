// Package reach: what a build comes to, asked of goroutines and put in order.
package reach

import (
	"maps"
	"slices"
	"sync"

	"cairnway/module"
)

const askedAtOnce = 4

// Teller tells what a module needs, in order, and if it is published.
// Goroutines ask it at the same time, so it may only read, and what it tells is only read.
type Teller func(m module.Module) (needs []module.Module, published bool)

type answer struct {
	asked     module.Module
	needs     []module.Module
	published bool
}

// Reached is all that a build comes to, each list in order.
type Reached struct {
	Roots     []module.Module
	Published []module.Module
	Missing   []module.Module
	needs     map[module.Module][]module.Module // of what is published
}

// From tells what is reached from roots that are in order.
func From(roots []module.Module, tell Teller) Reached {
	questions, answers := make(chan module.Module), make(chan answer)
	var asked sync.WaitGroup
	for range askedAtOnce {
		asked.Go(func() { answerAll(questions, answers, tell) })
	}
	w := walk{seen: make(map[module.Module]struct{}), needs: make(map[module.Module][]module.Module)}
	w.come(roots)
	w.run(questions, answers)
	close(questions)
	asked.Wait()
	// The answers came as the goroutines ran: nothing of that may be seen.
	slices.SortFunc(w.missing, module.Module.Compare)
	published := slices.SortedFunc(maps.Keys(w.needs), module.Module.Compare)
	return Reached{Roots: roots, Published: published, Missing: w.missing, needs: w.needs}
}

// Build gives a fresh list of the module with the greatest version of each path, in order.
func (r Reached) Build() []module.Module {
	return module.Greatest(r.Published)
}

// Taken tells which module of a path the build has, if it has one.
func (r Reached) Taken(path string) (module.Module, bool) {
	for _, m := range r.Build() {
		if m.Path == path {
			return m, true
		}
	}
	return module.Module{}, false
}

func answerAll(questions <-chan module.Module, answers chan<- answer, tell Teller) {
	for m := range questions {
		needs, published := tell(m)
		answers <- answer{asked: m, needs: needs, published: published}
	}
}

type walk struct {
	seen    map[module.Module]struct{}
	waiting []module.Module // seen, but not asked about yet
	needs   map[module.Module][]module.Module
	missing []module.Module
}

func (w *walk) come(list []module.Module) {
	for _, m := range list {
		if _, ok := w.seen[m]; !ok {
			w.seen[m] = struct{}{}
			w.waiting = append(w.waiting, m)
		}
	}
}

// run asks until nothing waits and every question is answered, so that no goroutine is left with an answer.
func (w *walk) run(questions chan<- module.Module, answers <-chan answer) {
	unanswered := 0
	for unanswered > 0 || len(w.waiting) > 0 {
		// With nothing to ask the channel stays nil, which select never takes.
		var ask chan<- module.Module
		var next module.Module
		if len(w.waiting) > 0 {
			ask, next = questions, w.waiting[0]
		}
		select {
		case ask <- next:
			w.waiting = w.waiting[1:]
			unanswered++
		case a := <-answers:
			w.take(a)
			unanswered--
		}
	}
}

func (w *walk) take(a answer) {
	if !a.published {
		w.missing = append(w.missing, a.asked)
		return
	}
	w.needs[a.asked] = a.needs
	w.come(a.needs)
}
