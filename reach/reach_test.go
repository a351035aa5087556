package reach

import (
	"runtime"
	"slices"
	"strconv"
	"strings"
	"sync"
	"testing"

	"cairnway/module"
)

// list reads modules with paths of one letter, as "a1 b2".
func list(t *testing.T, text string) []module.Module {
	t.Helper()
	var modules []module.Module
	for _, word := range strings.Fields(text) {
		version, err := strconv.Atoi(word[1:])
		if err != nil {
			t.Fatalf("the test's own module %q", word)
		}
		modules = append(modules, module.Module{Path: word[:1], Version: version})
	}
	return modules
}

// teller tells of modules, each as "a1: b2 c3"; those that are not named are not published.
func teller(t *testing.T, texts ...string) Teller {
	t.Helper()
	needs := make(map[module.Module][]module.Module)
	for _, text := range texts {
		m, needed, _ := strings.Cut(text, ":")
		needs[list(t, m)[0]] = list(t, needed)
	}
	return func(m module.Module) ([]module.Module, bool) {
		needed, ok := needs[m]
		return needed, ok
	}
}

func wantFrom(t *testing.T, roots string, tell Teller, published, missing string) {
	t.Helper()
	got := From(list(t, roots), tell)
	if !slices.Equal(got.Published, list(t, published)) || !slices.Equal(got.Missing, list(t, missing)) {
		t.Errorf("From(%s) = %v, missing %v, want %s, missing %s", roots, got.Published, got.Missing, published, missing)
	}
	if !slices.Equal(got.Roots, list(t, roots)) {
		t.Errorf("From(%s) has the roots %v", roots, got.Roots)
	}
}

func TestFromTellsAllThatIsReachedInOrder(t *testing.T) {
	tell := teller(t, "z1: a10 m1", "m1: a9 z1 q2", "a9: q1", "a10", "b1: p1")
	wantFrom(t, "", tell, "", "")
	wantFrom(t, "a10", tell, "a10", "")
	wantFrom(t, "x1", tell, "", "x1")
	wantFrom(t, "z1 y1", tell, "a9 a10 m1 z1", "q1 q2 y1")
}

func TestFromNeedsNothingOfWhatIsMissing(t *testing.T) {
	needed := list(t, "b1")
	tell := func(m module.Module) ([]module.Module, bool) { return needed, m.Path == "b" }
	wantFrom(t, "a1", tell, "", "a1")
}

func TestBuildIsTheGreatestOfEachPath(t *testing.T) {
	reached := From(list(t, "a1 b1"), teller(t, "a1: c9 d2", "b1: c10", "c9", "c10: d1", "d1", "d2"))
	for range 2 {
		built := reached.Build()
		if !slices.Equal(built, list(t, "a1 b1 c10 d2")) {
			t.Errorf("Build = %v", built)
		}
		for i := range built {
			built[i].Path = "q"
		}
	}
}

func TestTakenIsThatOfTheBuild(t *testing.T) {
	reached := From(list(t, "a1 b1"), teller(t, "a1: c9 d2", "b1: c10 m1", "c9", "c10: d1", "d1", "d2", "e1"))
	for _, want := range list(t, "a1 b1 c10 d2") {
		if got, ok := reached.Taken(want.Path); got != want || !ok {
			t.Errorf("Taken(%s) = %v, %t, want %v", want.Path, got, ok, want)
		}
	}
	// Neither what is not reached, nor what is missing, nor what is no path.
	for _, path := range []string{"e", "m", "", "aa", "A"} {
		if got, ok := reached.Taken(path); got != (module.Module{}) || ok {
			t.Errorf("Taken(%q) = %v, %t", path, got, ok)
		}
	}
	if got, ok := From(nil, teller(t, "a1")).Taken("a"); ok {
		t.Errorf("without roots Taken(a) = %v", got)
	}
}

func TestFromLeavesTheRoots(t *testing.T) {
	roots := list(t, "c1 b1 a1 x7")
	From(roots[:3], teller(t, "c1: d1", "b1", "a1"))
	if !slices.Equal(roots, list(t, "c1 b1 a1 x7")) {
		t.Errorf("From wrote into the roots: %v", roots)
	}
}

func TestFromAsksOfEachModuleOnce(t *testing.T) {
	tell := teller(t, "a1: b1 c1", "b1: c1 a1", "c1: a1 b1 d1")
	var lock sync.Mutex
	times := make(map[module.Module]int)
	wantFrom(t, "a1 c1", func(m module.Module) ([]module.Module, bool) {
		lock.Lock()
		defer lock.Unlock()
		times[m]++
		return tell(m)
	}, "a1 b1 c1", "d1")
	for m, n := range times {
		if n != 1 {
			t.Errorf("%v was asked of %d times", m, n)
		}
	}
}

// TestFromWhateverTheOrderOfAnswers holds the answer about one root back until the one about another is told.
func TestFromWhateverTheOrderOfAnswers(t *testing.T) {
	tell := teller(t, "a1: d1 e2", "b1: d2 e1", "c1: a2", "a2: b2", "d1", "d2: c1")
	for _, held := range list(t, "a1 b1 c1") {
		for _, first := range list(t, "a1 b1 c1") {
			if held == first {
				continue
			}
			told := make(chan struct{})
			wantFrom(t, "a1 b1 c1", func(m module.Module) ([]module.Module, bool) {
				switch m {
				case held:
					<-told
				case first:
					defer close(told)
				}
				return tell(m)
			}, "a1 a2 b1 c1 d1 d2", "b2 e1 e2")
		}
	}
}

func TestFromLeavesNoGoroutineBehind(t *testing.T) {
	tell := teller(t, "a1: b1 c1 d1 e1", "b1", "c1")
	for _, roots := range []string{"", "a1", "b1", "x1"} {
		for range 100 {
			From(list(t, roots), tell)
			if left := otherIn("cairnway/reach."); left != "" {
				t.Fatalf("From(%s): a goroutine goes on behind the call:\n%s", roots, left)
			}
		}
	}
}

// otherIn tells of a goroutine, other than the one that asks, that is in functions of this name.
func otherIn(name string) string {
	text := make([]byte, 1<<16)
	text = text[:runtime.Stack(text, true)]
	for _, one := range strings.Split(string(text), "\n\n")[1:] {
		if strings.Contains(one, name) {
			return one
		}
	}
	return ""
}
