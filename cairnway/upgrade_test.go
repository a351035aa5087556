package cairnway_test

import (
	"slices"
	"strings"
	"testing"
	"unsafe"

	"cairnway/api"
	"cairnway/cairnway"
)

func wantUpgrade(t *testing.T, s *cairnway.Shelf, roots, path, want string) {
	t.Helper()
	got, e := s.Upgrade(mods(t, roots), path)
	if show(got) != want || e != api.OK {
		t.Errorf("Upgrade(%s; %s) = %s, %d, want %s", roots, path, show(got), e, want)
	}
}

func wantNoUpgrade(t *testing.T, s *cairnway.Shelf, roots []api.Mod, path string, want api.Errno) {
	t.Helper()
	kept := slices.Clone(roots)
	if got, e := s.Upgrade(roots, path); got != nil || e != want {
		t.Errorf("Upgrade(%.20v; %.20q) = %v, %d, want %d", roots, path, got, e, want)
	}
	if !slices.Equal(roots, kept) {
		t.Errorf("Upgrade(%.20v; %.20q) wrote into the roots", kept, path)
	}
}

func TestP10TheDocumentsExamples(t *testing.T) {
	s := shelf(t, "a1: b1 c1", "b1: d1", "c1: d2", "d1", "d2", "d3")
	wantUpgrade(t, s, "a1", "d", "a1 d3")
	wantBuild(t, s, "a1 d3", "a1 b1 c1 d3")
	wantErrno(t, "Publish(e1)", s.Publish(mod("e", 1), mods(t, "f7")), api.OK)
	wantNoUpgrade(t, s, mods(t, "e1"), "e", api.ErrNone)
	wantErrno(t, "Retract(d3)", s.Retract(mod("d", 3)), api.OK)
	wantLatest(t, s, "d", 2, api.OK)
	wantUpgrade(t, s, "a1", "d", "a1")
	wantUpgrade(t, s, "b1", "d", "b1 d2")
	wantUpgrade(t, s, "d3", "d", "d3")
}

func TestP10InPlaceOfTheRootOfThePath(t *testing.T) {
	s := shelf(t, "a1", "b1", "b9", "b10", "b20: a1", "c1: b9", "bb1")
	wantUpgrade(t, s, "b1", "b", "b20")
	wantUpgrade(t, s, "c1 b1 a1", "b", "a1 b20 c1") // though the build takes b9
	wantUpgrade(t, s, "bb1 b10 a1", "b", "a1 b20 bb1")
}

func TestP10AsOneMore(t *testing.T) {
	s := shelf(t, "a1: m1", "z1: m2", "k1", "m1", "m2", "m10", "m9")
	wantUpgrade(t, s, "a1", "m", "a1 m10")
	wantUpgrade(t, s, "z1", "m", "m10 z1")
	wantUpgrade(t, s, "z1 k1 a1", "m", "a1 k1 m10 z1")
}

func TestP10TheLatestIsNotAboveThatOfTheBuild(t *testing.T) {
	s := shelf(t, "a1: b3", "b1", "b2", "b3", "c1")
	wantUpgrade(t, s, "c1 a1", "b", "a1 c1")
	wantUpgrade(t, s, "c1 b3 a1", "b", "a1 b3 c1")
	wantUpgrade(t, s, "c1 b2 a1", "b", "a1 b2 c1") // b2 is asked for, but the build has b3
	wantUpgrade(t, s, "c1 b2", "b", "b3 c1")
	wantUpgrade(t, s, "c1 a1", "a", "a1 c1")
}

func TestP10RetractedVersionsAreNotOffered(t *testing.T) {
	s := shelf(t, "a1: b2", "b1", "b2", "b3", "b4")
	wantUpgrade(t, s, "a1", "b", "a1 b4")
	wantErrno(t, "Retract(b4)", s.Retract(mod("b", 4)), api.OK)
	wantUpgrade(t, s, "a1", "b", "a1 b3")
	wantUpgrade(t, s, "b1", "b", "b3")
	wantUpgrade(t, s, "b4", "b", "b4")
	wantErrno(t, "Retract(b3)", s.Retract(mod("b", 3)), api.OK)
	wantUpgrade(t, s, "a1", "b", "a1")
	wantErrno(t, "Retract(b2)", s.Retract(mod("b", 2)), api.OK)
	wantUpgrade(t, s, "a1", "b", "a1") // what is left, b1, is below
	wantErrno(t, "Retract(b1)", s.Retract(mod("b", 1)), api.OK)
	wantLatest(t, s, "b", 0, api.ErrNone)
	wantUpgrade(t, s, "b2 a1", "b", "a1 b2")
	wantUpgrade(t, s, "b1", "b", "b1")
}

// TestP10WhatTheLatestNeedsIsNotAsked, though a build of the answer has an error.
func TestP10WhatTheLatestNeedsIsNotAsked(t *testing.T) {
	s := shelf(t, "a1: b1", "b1", "b2: gone7", "a2: b99")
	wantUpgrade(t, s, "a1", "b", "a1 b2")
	wantMissing(t, s, "a1 b2", "gone7")
	wantUpgrade(t, s, "a1", "a", "a2")
	wantUpgrade(t, s, "b1 a1", "a", "a2 b1")
}

func TestP10UpgradeInCircles(t *testing.T) {
	s := shelf(t, "a1: b1", "b1: a1", "a2: b1", "b2: a2")
	wantUpgrade(t, s, "a1", "b", "a1 b2")
	wantUpgrade(t, s, "a1", "a", "a2")
	wantUpgrade(t, s, "b2", "a", "b2")
	// Round by round a circle comes to greater versions of itself.
	s = shelf(t, "p1: q1", "q1: p2", "p2: q2", "q2: p3", "p3: q1", "q3: p1")
	wantUpgrade(t, s, "p1", "p", "p1")
	wantUpgrade(t, s, "p1", "q", "p1 q3")
	wantUpgrade(t, s, "q1 p1", "q", "p1 q3")
}

func TestP10RootsAtTheEdges(t *testing.T) {
	longest := strings.Repeat("z", api.MaxPath)
	s := shelf(t, "a1: "+longest+"98", "b1", "c1", "d1", "e1", "f1", "g1", "h1", "h2", longest+"98", longest+"99")
	wantNoUpgrade(t, s, mods(t, "a1 b1 c1 d1 e1 f1 g1 h1"), longest, api.ErrMany)
	wantUpgrade(t, s, "g1 f1 e1 d1 c1 b1 a1", longest, "a1 b1 c1 d1 e1 f1 g1 "+longest+"99")
	wantUpgrade(t, s, longest+"98 g1 f1 e1 d1 c1 b1 a1", longest, "a1 b1 c1 d1 e1 f1 g1 "+longest+"99")
	wantUpgrade(t, s, "h1 g1 f1 e1 d1 c1 b1 a1", "h", "a1 b1 c1 d1 e1 f1 g1 h2")
	// There is nothing to ask for, so there is no root too many.
	wantErrno(t, "Retract", s.Retract(mod(longest, 99)), api.OK)
	wantUpgrade(t, s, "h1 g1 f1 e1 d1 c1 b1 a1", longest, "a1 b1 c1 d1 e1 f1 g1 h1")
	wantNoUpgrade(t, s, mods(t, "a1 b1 c1 d1 e1 f1 g1 h1"), "q", api.ErrAbsent)
	wantNoUpgrade(t, s, mods(t, "a1 b1 c1 d1 e1 f1 g1 h1 "+longest+"98"), longest, api.ErrMany)
}

func TestP10NoRoots(t *testing.T) {
	for _, s := range []*cairnway.Shelf{cairnway.New(), shelf(t, "a1", "a2")} {
		wantNoUpgrade(t, s, nil, "a", api.ErrAbsent)
		wantNoUpgrade(t, s, []api.Mod{}, "a", api.ErrAbsent)
		wantNoUpgrade(t, s, nil, "", api.ErrAbsent)
	}
}

func TestP10UpgradeOnAFullShelf(t *testing.T) {
	s := fullShelf(t)
	for range 20 {
		wantUpgrade(t, s, "d1 a1", "g", "a1 d1 g8")
		wantUpgrade(t, s, "d1 a1", "a", "a9 d1")
		wantUpgrade(t, s, "d9 a9", "g", "a9 d9")
		wantNoUpgrade(t, s, mods(t, "g9 a9"), "a", api.ErrNone)
	}
}

func TestP10AbsentIsAnyPathThatTheBuildHasNot(t *testing.T) {
	s := shelf(t, "a1: bb1", "a2: c1", "bb1", "bb2", "c1", "c2", "d1: m1", "d2")
	for _, path := range absentPaths() {
		wantNoUpgrade(t, s, mods(t, "a1"), path, api.ErrAbsent)
	}
	wantUpgrade(t, s, "a1", "bb", "a1 bb2")
}

func TestP10TheErrorsOfBuildComeFirst(t *testing.T) {
	s := shelf(t, "a1: b1", "b1", "b2", "c1: m1")
	for _, path := range []string{"a", "b", "z", "?"} {
		for _, c := range wrongRoots(t) {
			wantNoUpgrade(t, s, c.roots, path, c.want)
		}
		for _, missing := range []string{"c1", "a1 c1", "q1 a1", "a2", "q1 r1 s1 t1 u1 v1 w1 a1"} {
			wantNoUpgrade(t, s, mods(t, missing), path, api.ErrNone)
		}
	}
	wantUpgrade(t, s, "a1", "b", "a1 b2")
}

func TestP10UpgradeChangesNothing(t *testing.T) {
	s := shelf(t, "a1: c1 b1", "b1", "c1", "c2")
	for range 3 {
		wantUpgrade(t, s, "a1", "c", "a1 c2")
		wantNoUpgrade(t, s, mods(t, "a1"), "n", api.ErrAbsent)
		wantBuild(t, s, "a1", "a1 b1 c1")
	}
	wantNeeds(t, s, "a1", "b1 c1")
	wantLatest(t, s, "n", 0, api.ErrNone)
	fill(t, s, "k", 4)
}

func TestP2UpgradeLeavesWhatIsHandedIn(t *testing.T) {
	s := shelf(t, "a1", "b1: d1", "b2", "c1", "d1", "d2")
	whole := mods(t, "c1 b1 a1 x7 y8")
	for path, want := range map[string]string{"d": "a1 b1 c1 d2", "b": "a1 b2 c1", "a": "a1 b1 c1"} {
		if got, e := s.Upgrade(whole[:3], path); e != api.OK || show(got) != want {
			t.Errorf("Upgrade to %s = %s, %d, want %s", path, show(got), e, want)
		}
		if show(whole) != "c1 b1 a1 x7 y8" {
			t.Fatalf("Upgrade wrote into the roots: %s", show(whole))
		}
	}
}

func TestP2UpgradedRootsAreTheCallers(t *testing.T) {
	s := shelf(t, "a1: b1", "b1", "b2", "c1")
	for path, want := range map[string]string{"a": "a1 c1", "b": "a1 b2 c1"} {
		named := mods(t, "a1 c1")
		wantCallers(t, want, func() []api.Mod {
			upgraded, _ := s.Upgrade(named, path)
			return upgraded
		})
		if show(named) != "a1 c1" {
			t.Errorf("the answers share memory with the roots: %s", show(named))
		}
	}
	wantNeeds(t, s, "a1", "b1")
	wantBuild(t, s, "a1", "a1 b1")
}

func TestP2UpgradeSharesNoPathWithWhatIsHandedIn(t *testing.T) {
	s := shelf(t, "a1: b1", "a2", "b1", "b2")
	letters := []byte("ab")
	path := func(i int) string { return unsafe.String(&letters[i], 1) }
	asIs, _ := s.Upgrade([]api.Mod{mod(path(0), 2)}, path(0))
	inPlace, _ := s.Upgrade([]api.Mod{mod(path(0), 1)}, path(0))
	oneMore, _ := s.Upgrade([]api.Mod{mod(path(0), 1)}, path(1))
	letters[0], letters[1] = 'u', 'v'
	if show(asIs) != "a2" || show(inPlace) != "a2" || show(oneMore) != "a1 b2" {
		t.Errorf("the answers share memory with what was handed in: %s; %s; %s", show(asIs), show(inPlace), show(oneMore))
	}
	wantUpgrade(t, s, "a1", "b", "a1 b2")
}

func TestP1NoGoroutineGoesOnBehindUpgrade(t *testing.T) {
	s := shelf(t, "a1: b1 c1 d1 e1 f1 g1", "b1: h1", "c1", "d1", "e1", "f1", "g1", "h1", "h2", "k1: n1 o1 p1 q1 r1 s1")
	wantNoneBehind(t, func() {
		wantUpgrade(t, s, "a1", "h", "a1 h2")
		wantUpgrade(t, s, "a1", "c", "a1")
		wantNoUpgrade(t, s, mods(t, "a1"), "k", api.ErrAbsent)
		wantNoUpgrade(t, s, mods(t, "a1 k1"), "h", api.ErrNone)
		wantNoUpgrade(t, s, mods(t, "a1 a1"), "h", api.ErrTwice)
		wantNoUpgrade(t, s, nil, "h", api.ErrAbsent)
	})
}
