package reach

import (
	"slices"
	"testing"

	"cairnway/module"
)

func wantWay(t *testing.T, tell Teller, roots, to, want string) {
	t.Helper()
	got := From(list(t, roots), tell).Way(list(t, to)[0])
	if !slices.Equal(got, list(t, want)) {
		t.Errorf("the way from %s to %s is %v, want %s", roots, to, got, want)
	}
}

func TestWayIsTheShortest(t *testing.T) {
	tell := teller(t, "a1: b1 c1", "b1: d1", "d1: c1 e1", "c1: e2", "e1", "e2")
	wantWay(t, tell, "a1", "a1", "a1")
	wantWay(t, tell, "a1", "c1", "a1 c1")
	wantWay(t, tell, "a1", "e1", "a1 b1 d1 e1")
	wantWay(t, tell, "a1", "e2", "a1 c1 e2")
	wantWay(t, tell, "a1 d1", "e1", "d1 e1")
	wantWay(t, tell, "a1 b1 d1 e1", "e1", "e1")
}

func TestWayIsTheFirstOfThoseOfOneLength(t *testing.T) {
	tell := teller(t, "a1: c1 d1", "b1: c1 d1", "c1: e2", "d1: e1", "e1: x1", "e2: x1", "g1: d2 d9", "d2: c9", "d9: c1", "c9: e1", "x1")
	wantWay(t, tell, "a1 b1", "x1", "a1 c1 e2 x1") // though e1 is ahead of e2
	wantWay(t, tell, "b1", "x1", "b1 c1 e2 x1")
	wantWay(t, tell, "b1 g1", "e1", "b1 d1 e1")
	wantWay(t, tell, "g1", "x1", "g1 d2 c9 e1 x1")
}

func TestWayInACircle(t *testing.T) {
	tell := teller(t, "a1: b1", "b1: c1", "c1: a1 d1", "d1: c1")
	wantWay(t, tell, "a1", "d1", "a1 b1 c1 d1")
	wantWay(t, tell, "c1", "b1", "c1 a1 b1")
	wantWay(t, tell, "d1", "d1", "d1")
}

// TestWayWhateverTheOrderOfAnswers holds the answer about the first root back until all others are told.
func TestWayWhateverTheOrderOfAnswers(t *testing.T) {
	tell := teller(t, "a1: x1", "b1: x1", "c1: x1", "x1: y1", "y1")
	told := make(chan struct{})
	wantWay(t, func(m module.Module) ([]module.Module, bool) {
		switch m.Path {
		case "a":
			<-told
		case "y":
			defer close(told)
		}
		return tell(m)
	}, "a1 b1 c1", "y1", "a1 x1 y1")
}

func TestWaysAreFresh(t *testing.T) {
	reached := From(list(t, "a1"), teller(t, "a1: b1", "b1: c1", "c1"))
	for range 2 {
		way := reached.Way(list(t, "c1")[0])
		if !slices.Equal(way, list(t, "a1 b1 c1")) {
			t.Errorf("the way is %v", way)
		}
		for i := range way {
			way[i].Path = "q"
		}
	}
}
