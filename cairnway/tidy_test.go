package cairnway_test

import (
	"slices"
	"testing"
	"unsafe"

	"cairnway/api"
	"cairnway/cairnway"
)

func wantTidy(t *testing.T, s *cairnway.Shelf, roots, want string) {
	t.Helper()
	got, e := s.Tidy(mods(t, roots))
	if show(got) != want || e != api.OK {
		t.Errorf("Tidy(%s) = %s, %d, want %s", roots, show(got), e, want)
	}
}

func wantUntidied(t *testing.T, s *cairnway.Shelf, name string, roots []api.Mod, want api.Errno) {
	t.Helper()
	kept := slices.Clone(roots)
	if got, e := s.Tidy(roots); got != nil || e != want {
		t.Errorf("%s: Tidy = %v, %d, want %d", name, got, e, want)
	}
	if !slices.Equal(roots, kept) {
		t.Errorf("%s: Tidy wrote into the roots", name)
	}
}

func TestP9TheDocumentsExamples(t *testing.T) {
	s := shelf(t, "a1: b1 c1", "b1: d1", "c1: d2", "d1", "d2", "d3")
	wantTidy(t, s, "a1 d2", "a1")
	wantTidy(t, s, "a1 d3", "a1 d3")
	wantErrno(t, "Publish(e1)", s.Publish(mod("e", 1), mods(t, "f7")), api.OK)
	wantUntidied(t, s, "e1", mods(t, "e1"), api.ErrNone)
	wantErrno(t, "Retract(d3)", s.Retract(mod("d", 3)), api.OK)
	wantTidy(t, s, "d3 a1", "a1 d3")
}

func TestP9WhatOthersReachIsLeftOut(t *testing.T) {
	s := shelf(t, "a1: b1 c1", "b1: d1", "c1: d2", "d1", "d2", "d3", "e1")
	wantTidy(t, s, "a1", "a1")
	wantTidy(t, s, "d2", "d2")
	wantTidy(t, s, "d1 c1 b1 a1", "a1")
	wantTidy(t, s, "a1 b1 c1 d3", "a1 d3")
	wantTidy(t, s, "c1 b1", "b1 c1")
	wantTidy(t, s, "d1 b1", "b1")
	wantTidy(t, s, "d2 b1", "b1 d2")
	wantTidy(t, s, "d2 c1 b1", "b1 c1")
	wantTidy(t, s, "e1 d1 b1", "b1 e1")
	wantTidy(t, s, "e1 c1 a1", "a1 e1")
}

func TestP9ALesserVersionIsLeftOutThoughNobodyNeedsIt(t *testing.T) {
	s := shelf(t, "a1: c2", "b1", "c1", "c2", "c3: b1")
	wantTidy(t, s, "a1 c1", "a1")
	wantTidy(t, s, "c1 b1 a1", "a1 b1")
	wantTidy(t, s, "c3 a1 b1", "a1 c3")
}

// TestP9ALesserVersionStaysForWhatItNeeds: x2 is taken, but y1 is reached by x1 alone.
func TestP9ALesserVersionStaysForWhatItNeeds(t *testing.T) {
	s := shelf(t, "s1: x2", "x1: y1", "x2", "y1", "z1: y1")
	wantTidy(t, s, "s1 x1", "s1 x1")
	wantTidy(t, s, "s1 x1 y1", "s1 x1")
	wantTidy(t, s, "z1 s1 x1", "s1 z1")
	wantTidy(t, s, "z1 s1 x2", "s1 z1")
}

func TestP9RootsThatReachOneAnother(t *testing.T) {
	s := shelf(t, "p1: q1", "q1: p1", "p2: q1", "q2: p1", "r1: s1", "s1: u1", "u1: r1")
	wantTidy(t, s, "p1 q1", "p1") // the last is asked about first
	wantTidy(t, s, "q1 p1", "p1")
	wantTidy(t, s, "p2 q2", "p2 q2")
	wantTidy(t, s, "q2 p1", "q2")
	wantTidy(t, s, "q1 p2", "p2")
	wantTidy(t, s, "u1 s1 r1", "r1")
	wantTidy(t, s, "s1 u1", "s1")
	wantTidy(t, s, "u1 q1 p1 s1", "p1 s1")
	// Round by round a circle comes to greater versions of itself.
	s = shelf(t, "p1: q1", "q1: p2", "p2: q2", "q2: p1")
	wantTidy(t, s, "p1 q1", "p1")
	wantTidy(t, s, "p2 q1", "p2")
	wantTidy(t, s, "q2", "q2")
}

// TestP9EachIsAskedAboutWithoutThoseLeftOut: either of b1 and c1 may go, but not both.
func TestP9EachIsAskedAboutWithoutThoseLeftOut(t *testing.T) {
	s := shelf(t, "a1: d1", "b1: c1 d2", "c1: b1 d2", "d1", "d2", "e1: d2", "f1: d2")
	wantTidy(t, s, "c1 b1 a1", "a1 b1")
	wantTidy(t, s, "a1 d2", "a1 d2")
	wantTidy(t, s, "d2 e1 a1", "a1 e1")
	wantTidy(t, s, "f1 e1 d2 a1", "a1 e1 f1")
}

func TestP9NoRoots(t *testing.T) {
	for _, s := range []*cairnway.Shelf{cairnway.New(), shelf(t, "a1")} {
		wantTidy(t, s, "", "")
		if got, e := s.Tidy([]api.Mod{}); len(got) != 0 || e != api.OK {
			t.Errorf("Tidy of an empty list = %v, %d", got, e)
		}
	}
}

func TestP9RootsAtTheEdges(t *testing.T) {
	s := shelf(t, "a1", "b1", "c1", "d1", "e1", "f1", "g1", "h1: a1 b1 c1 d1 e1 f1", "h2: g1", "i1")
	wantTidy(t, s, "h2 g1 f1 e1 d1 c1 b1 a1", "a1 b1 c1 d1 e1 f1 h2")
	wantTidy(t, s, "h1 g1 f1 e1 d1 c1 b1 a1", "g1 h1")
	wantTidy(t, s, "i1 g1 f1 e1 d1 c1 b1 a1", "a1 b1 c1 d1 e1 f1 g1 i1")
	wantUntidied(t, s, "one too many", mods(t, "a1 b1 c1 d1 e1 f1 g1 h1 i1"), api.ErrMany)
}

func TestP9TidyOnAFullShelf(t *testing.T) {
	s := fullShelf(t)
	for range 20 {
		wantTidy(t, s, "g1 f1 e1 d1 c1 b1 a1", "a1")
		wantTidy(t, s, "g8 d9 a9", "a9 d9")
		wantTidy(t, s, "g8 f7 e6 d5 c4 b3 a2", "g8")
		wantUntidied(t, s, "missing", mods(t, "g9 a9"), api.ErrNone)
	}
}

func TestP9TidyTellsTheErrorOfBuild(t *testing.T) {
	s := shelf(t, "a1: b1", "b1", "c1: m1")
	for _, c := range wrongRoots(t) {
		wantUntidied(t, s, c.name, c.roots, c.want)
	}
	for _, missing := range []string{"c1", "a1 c1", "q1 a1", "a2", "b1 a1 m1"} {
		wantUntidied(t, s, missing, mods(t, missing), api.ErrNone)
	}
	wantTidy(t, s, "b1 a1", "a1")
}

func TestP9TidyChangesNothing(t *testing.T) {
	s := shelf(t, "a1: c1 b1", "b1", "c1")
	for range 3 {
		wantTidy(t, s, "c1 b1 a1", "a1")
		wantUntidied(t, s, "missing", mods(t, "n1"), api.ErrNone)
		wantBuild(t, s, "a1", "a1 b1 c1")
	}
	wantNeeds(t, s, "a1", "b1 c1")
	wantLatest(t, s, "n", 0, api.ErrNone)
	fill(t, s, "k", 3)
}

func TestP2TidyLeavesWhatIsHandedIn(t *testing.T) {
	s := shelf(t, "a1: c1", "b1", "c1")
	whole := mods(t, "c1 b1 a1 x7 y8")
	if got, e := s.Tidy(whole[:3]); e != api.OK || show(got) != "a1 b1" {
		t.Errorf("Tidy = %s, %d", show(got), e)
	}
	if show(whole) != "c1 b1 a1 x7 y8" {
		t.Errorf("Tidy wrote into the roots: %s", show(whole))
	}
}

func TestP2TidiedRootsAreTheCallers(t *testing.T) {
	s := shelf(t, "a1: c1", "b1", "c1")
	for _, roots := range []string{"a1 b1", "c1 b1 a1"} {
		named := mods(t, roots)
		wantCallers(t, "a1 b1", func() []api.Mod {
			left, _ := s.Tidy(named)
			return left
		})
		if show(named) != roots {
			t.Errorf("the answers share memory with the roots: %s, want %s", show(named), roots)
		}
	}
}

func TestP2TidySharesNoPathWithItsRoots(t *testing.T) {
	s := shelf(t, "a1: b1", "b1", "c1")
	letters := []byte("abc")
	path := func(i int) string { return unsafe.String(&letters[i], 1) }
	left, _ := s.Tidy([]api.Mod{mod(path(2), 1), mod(path(1), 1), mod(path(0), 1)})
	letters[0], letters[1], letters[2] = 'u', 'v', 'w'
	if show(left) != "a1 c1" {
		t.Errorf("the answer shares memory with the roots: %s", show(left))
	}
}

func TestP1NoGoroutineGoesOnBehindTidy(t *testing.T) {
	s := shelf(t, "a1: b1 c1 d1 e1 f1 g1", "b1: h1", "c1", "d1", "e1", "f1", "g1", "h1", "k1: n1 o1 p1 q1 r1 s1")
	wantNoneBehind(t, func() {
		wantTidy(t, s, "h1 g1 f1 a1", "a1")
		wantUntidied(t, s, "missing", mods(t, "a1 k1"), api.ErrNone)
		wantUntidied(t, s, "twice", mods(t, "a1 a1"), api.ErrTwice)
		wantTidy(t, s, "", "")
	})
}
