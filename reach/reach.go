// Package reach: what a build comes to, asked of goroutines and put in order.
package reach

import (
	"slices"
	"sync"

	"cairnway/module"
)

const askedAtOnce = 4

// Teller tells what a module needs, and if it is published.
// Goroutines ask it at the same time, so it may only read, and what it tells is only read.
type Teller func(m module.Module) (needs []module.Module, published bool)

type answer struct {
	asked     module.Module
	needs     []module.Module
	published bool
}

// From tells what is reached from the roots: what of it is published, and what is missing, each in order.
func From(roots []module.Module, tell Teller) (published, missing []module.Module) {
	questions, answers := make(chan module.Module), make(chan answer)
	var asked sync.WaitGroup
	for range askedAtOnce {
		asked.Go(func() { answerAll(questions, answers, tell) })
	}
	w := walk{seen: make(map[module.Module]struct{})}
	w.come(roots)
	w.run(questions, answers)
	close(questions)
	asked.Wait()
	// The answers came as the goroutines ran: nothing of that may be seen.
	slices.SortFunc(w.published, module.Module.Compare)
	slices.SortFunc(w.missing, module.Module.Compare)
	return w.published, w.missing
}

func answerAll(questions <-chan module.Module, answers chan<- answer, tell Teller) {
	for m := range questions {
		needs, published := tell(m)
		answers <- answer{asked: m, needs: needs, published: published}
	}
}

type walk struct {
	seen      map[module.Module]struct{}
	waiting   []module.Module // seen, but not asked about yet
	published []module.Module
	missing   []module.Module
}

func (w *walk) come(list []module.Module) {
	for _, m := range list {
		if _, ok := w.seen[m]; !ok {
			w.seen[m] = struct{}{}
			w.waiting = append(w.waiting, m)
		}
	}
}

// run asks until nothing waits and every question is answered, so that no goroutine is left with an answer.
func (w *walk) run(questions chan<- module.Module, answers <-chan answer) {
	unanswered := 0
	for unanswered > 0 || len(w.waiting) > 0 {
		// With nothing to ask the channel stays nil, which select never takes.
		var ask chan<- module.Module
		var next module.Module
		if len(w.waiting) > 0 {
			ask, next = questions, w.waiting[0]
		}
		select {
		case ask <- next:
			w.waiting = w.waiting[1:]
			unanswered++
		case a := <-answers:
			w.take(a)
			unanswered--
		}
	}
}

func (w *walk) take(a answer) {
	if !a.published {
		w.missing = append(w.missing, a.asked)
		return
	}
	w.published = append(w.published, a.asked)
	w.come(a.needs)
}
