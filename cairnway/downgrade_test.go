package cairnway_test

import (
	"slices"
	"strings"
	"testing"
	"unsafe"

	"cairnway/api"
	"cairnway/cairnway"
)

func wantDowngrade(t *testing.T, s *cairnway.Shelf, roots, m, want string) {
	t.Helper()
	got, e := s.Downgrade(mods(t, roots), mods(t, m)[0])
	if show(got) != want || e != api.OK {
		t.Errorf("Downgrade(%s; %s) = %s, %d, want %s", roots, m, show(got), e, want)
	}
}

func wantNoDowngrade(t *testing.T, s *cairnway.Shelf, name string, roots []api.Mod, m api.Mod, want api.Errno) {
	t.Helper()
	kept := slices.Clone(roots)
	if got, e := s.Downgrade(roots, m); got != nil || e != want {
		t.Errorf("%s: Downgrade to %.20q %d = %v, %d, want %d", name, m.Path, m.Version, got, e, want)
	}
	if !slices.Equal(roots, kept) {
		t.Errorf("%s: Downgrade wrote into the roots", name)
	}
}

func TestP11TheDocumentsExamples(t *testing.T) {
	s := shelf(t, "a1: b1 c1", "b1: d1", "c1: d2", "d1", "d2", "d3")
	wantDowngrade(t, s, "a1 b1", "d1", "b1")
	wantBuild(t, s, "b1", "b1 d1")
	wantErrno(t, "Publish(e1)", s.Publish(mod("e", 1), mods(t, "f7")), api.OK)
	wantNoDowngrade(t, s, "e1", mods(t, "e1"), mod("d", 1), api.ErrNone)
	wantErrno(t, "Retract(d3)", s.Retract(mod("d", 3)), api.OK)
	wantDowngrade(t, s, "d3", "d3", "d3")
	wantDowngrade(t, s, "d3", "d2", "d2")
}

func TestP11TheGreatestVersionThatFits(t *testing.T) {
	s := shelf(t, "a1", "a2: d1", "a9: d2", "a10: d2", "a12: d3", "a13", "d1", "d2", "d3", "d4")
	wantDowngrade(t, s, "a12", "d4", "a12")
	wantDowngrade(t, s, "a12", "d3", "a12")
	wantDowngrade(t, s, "a12", "d2", "a10") // not a13, which is above, and not a11, which is not published
	wantDowngrade(t, s, "a12", "d1", "a2")
	wantDowngrade(t, s, "a10", "d3", "a10")
	wantDowngrade(t, s, "a9", "d1", "a2")
	wantDowngrade(t, s, "a1", "d1", "a1")
	wantDowngrade(t, s, "a13", "d1", "a13")
}

// TestP11ALesserVersionMayAskForMore of m's path than a greater one.
func TestP11ALesserVersionMayAskForMore(t *testing.T) {
	s := shelf(t, "a1: d1", "a2: d9", "a3: d2", "a4: d8", "d1", "d2", "d8", "d9")
	wantDowngrade(t, s, "a4", "d9", "a4")
	wantDowngrade(t, s, "a4", "d7", "a3")
	wantDowngrade(t, s, "a3", "d2", "a3")
	wantDowngrade(t, s, "a3", "d1", "a1")
}

func TestP11EachRootInOrder(t *testing.T) {
	s := shelf(t, "z3: d3", "z2: d2", "z1", "k5: d1", "b7: z3", "b6: z2", "aa1", "d1", "d2", "d3")
	wantDowngrade(t, s, "z3 k5 b7 aa1", "d3", "aa1 b7 k5 z3")
	wantDowngrade(t, s, "z3 k5 b7 aa1", "d2", "aa1 b6 k5 z2")
	wantDowngrade(t, s, "k5 aa1 z3 b7", "d1", "aa1 k5 z1")
}

func TestP11ARootOfWhichNoneFitsIsLeftOut(t *testing.T) {
	s := shelf(t, "a2: d2", "a1: d2", "b1: d1", "c1: a1", "d1", "d2")
	wantDowngrade(t, s, "a2", "d1", "")
	wantDowngrade(t, s, "c1 b1 a2", "d1", "b1")
	wantDowngrade(t, s, "c1 a2", "d1", "")
	wantDowngrade(t, s, "d2 c1 a2", "d1", "d1")
	wantDowngrade(t, s, "c1", "d2", "c1")
}

// TestP11EachRootIsBuiltAlone: what the other roots ask for does not matter.
func TestP11EachRootIsBuiltAlone(t *testing.T) {
	s := shelf(t, "a1: d1", "b1: d3", "d1", "d2", "d3")
	wantDowngrade(t, s, "a1 b1", "d1", "a1")
	wantDowngrade(t, s, "a1 d3", "d2", "a1 d2")
}

// TestP11WhatALesserVersionNeedsCounts, though the build of the root takes a greater one.
func TestP11WhatALesserVersionNeedsCounts(t *testing.T) {
	s := shelf(t, "r2: x1 s1", "r1: x2", "s1: x2", "x1: y3", "x2: y1", "y1", "y3")
	wantBuild(t, s, "r2", "r2 s1 x2 y3")
	wantDowngrade(t, s, "r2", "y2", "r1")
	wantDowngrade(t, s, "r2", "y3", "r2")
}

func TestP11RetractedVersionsCount(t *testing.T) {
	s := shelf(t, "a3: d3", "a2: d2", "a1: d1", "d1", "d2", "d3")
	for _, m := range mods(t, "a2 a3 d1 d2 d3") {
		wantErrno(t, "Retract", s.Retract(m), api.OK)
	}
	wantDowngrade(t, s, "a3", "d3", "a3")
	wantDowngrade(t, s, "a3", "d2", "a2")
	wantDowngrade(t, s, "d3", "d2", "d2")
	wantDowngrade(t, s, "a3", "d1", "a1")
}

func TestP11ALesserVersionThatNeedsWhatIsMissingDoesNotFit(t *testing.T) {
	s := shelf(t, "x5: y3", "x4: y1 gone7", "x3: w1", "x1: y1", "w1: v1", "y1", "y3", "k2: y3", "k1: gone7")
	wantMissing(t, s, "x4", "gone7")
	wantMissing(t, s, "x3", "v1")
	wantDowngrade(t, s, "x5", "y2", "x1")
	wantDowngrade(t, s, "k2 x5", "y2", "x1")
	wantDowngrade(t, s, "k2", "gone6", "k2")
	wantErrno(t, "Publish(v1)", s.Publish(mod("v", 1), nil), api.OK)
	wantDowngrade(t, s, "x5", "y2", "x3")
	wantErrno(t, "Publish(gone7)", s.Publish(mod("gone", 7), nil), api.OK)
	wantDowngrade(t, s, "k2 x5", "y2", "k1 x4")
}

func TestP11DowngradeInCircles(t *testing.T) {
	s := shelf(t, "a3: b2", "b2: a3", "a2: b1", "b1: a2", "a1", "c1: b1")
	wantDowngrade(t, s, "b2 a3", "b1", "a2 b1")
	wantDowngrade(t, s, "b2 a3", "a2", "a2 b1")
	wantDowngrade(t, s, "b2 a3", "a1", "a1")
	wantDowngrade(t, s, "c1 a3", "a1", "a1")
	wantDowngrade(t, s, "c1 a3", "a3", "a3 c1")
	// Round by round a circle comes to greater versions of itself.
	s = shelf(t, "p1: q1", "q1: p2", "p2: q2", "q2: p3", "p3: q1", "q3: p1")
	wantDowngrade(t, s, "p1", "p2", "")
	wantDowngrade(t, s, "q3 p3", "p3", "p3 q3")
	wantDowngrade(t, s, "q3 p3", "q2", "p3 q2")
	wantDowngrade(t, s, "q3 p3", "q1", "")
}

func TestP11ThePathOfARoot(t *testing.T) {
	s := shelf(t, "a1", "a2", "a4", "b2: a4", "b1: a2", "c1: b2")
	wantDowngrade(t, s, "a4", "a4", "a4")
	wantDowngrade(t, s, "a4", "a3", "a2") // a3 is not published
	wantDowngrade(t, s, "a4", "a2", "a2")
	wantDowngrade(t, s, "c1 b2 a4", "a3", "a2 b1")
	wantDowngrade(t, s, "c1 b2 a4", "a1", "a1")
	wantDowngrade(t, s, "a2", "a4", "a2") // never a greater one
	wantDowngrade(t, s, "c1 b2", "b1", "b1")
	// m's own version is a bound, and not what is taken.
	s = shelf(t, "a3", "a2: gone1", "a1")
	wantDowngrade(t, s, "a3", "a2", "a1")
}

func TestP11APathThatNothingReaches(t *testing.T) {
	s := shelf(t, "a2: b1", "a1", "b1", "k9")
	for _, m := range []string{"k1", "k9", "q1", "q99", strings.Repeat("z", api.MaxPath) + "99"} {
		wantDowngrade(t, s, "b1 a2", m, "a2 b1")
	}
}

func TestP11NoRoots(t *testing.T) {
	for _, s := range []*cairnway.Shelf{cairnway.New(), shelf(t, "a1")} {
		wantDowngrade(t, s, "", "a1", "")
		if got, e := s.Downgrade([]api.Mod{}, mod("a", 1)); len(got) != 0 || e != api.OK {
			t.Errorf("Downgrade of an empty list = %v, %d", got, e)
		}
		wantNoDowngrade(t, s, "no roots", nil, mod("", 0), api.ErrPath)
		wantNoDowngrade(t, s, "no roots", nil, mod("a", 0), api.ErrVersion)
	}
}

func TestP11AtTheEdges(t *testing.T) {
	longest := strings.Repeat("z", api.MaxPath)
	s := shelf(t, "a99: "+longest+"99", "a1: "+longest+"1", "b1", "c1", "d1", "e1", "f1", "g1", "h1", longest+"1", longest+"99")
	wantDowngrade(t, s, "h1 g1 f1 e1 d1 c1 b1 a99", longest+"99", "a99 b1 c1 d1 e1 f1 g1 h1")
	wantDowngrade(t, s, "h1 g1 f1 e1 d1 c1 b1 a99", longest+"98", "a1 b1 c1 d1 e1 f1 g1 h1")
	wantDowngrade(t, s, longest+"99 a99", longest+"1", "a1 "+longest+"1")
	wantNoDowngrade(t, s, "one too many", mods(t, "a1 b1 c1 d1 e1 f1 g1 h1 "+longest+"1"), mod("a", 1), api.ErrMany)
}

func TestP11DowngradeOnAFullShelf(t *testing.T) {
	s := fullShelf(t)
	for range 5 {
		wantDowngrade(t, s, "g8 f8 e8 d9 c9 b9 a9", "a9", "a9 b9 c9 d9 e8 f8 g8")
		wantDowngrade(t, s, "g8 f8 e8 d9 c9 b9 a9", "a8", "a8 b9 c9 d9 e8 f8 g8")
		wantDowngrade(t, s, "g8 f8 e8 d9 c9 b9 a9", "a4", "a4 b5 c5 d5 e5 f5 g5")
		wantDowngrade(t, s, "g8 f8 e8 d9 c9 b9 a9", "a1", "a1 b2 c2 d2 e2 f2 g2")
		wantNoDowngrade(t, s, "missing", mods(t, "g9 a9"), mod("a", 1), api.ErrNone)
	}
}

// TestP11OverEveryVersion goes from the greatest version of a full shelf to the least.
func TestP11OverEveryVersion(t *testing.T) {
	s := shelf(t, "d1", "d2", "a1: d1")
	for version := 2; version <= api.MaxMods-2; version++ {
		wantErrno(t, "Publish", s.Publish(mod("a", version), mods(t, "d2")), api.OK)
	}
	wantDowngrade(t, s, "a58", "d2", "a58")
	wantDowngrade(t, s, "d2 a58", "d1", "a1 d1")
}

func TestP11WrongModules(t *testing.T) {
	s := shelf(t, "a2: b2", "a1: b1", "b1", "b2")
	for _, c := range []struct {
		name string
		m    api.Mod
		want api.Errno
	}{
		{"nothing", api.Mod{}, api.ErrPath},
		{"no path", mod("", 1), api.ErrPath},
		{"path too long", mod(strings.Repeat("a", api.MaxPath+1), 1), api.ErrPath},
		{"path far too long", mod(strings.Repeat("a", 1<<22), 1), api.ErrPath},
		{"great letter", mod("B", 1), api.ErrPath},
		{"digit", mod("b1", 1), api.ErrPath},
		{"no UTF-8", mod("\xff", 1), api.ErrPath},
		{"path and version", mod("?", 0), api.ErrPath},
		{"path and version", mod("?", farthest), api.ErrPath},
		{"version zero", mod("b", 0), api.ErrVersion},
		{"version below zero", mod("b", -1), api.ErrVersion},
		{"version far below zero", mod("b", -farthest-1), api.ErrVersion},
		{"version too great", mod("b", api.MaxVersion+1), api.ErrVersion},
		{"version far too great", mod("b", farthest), api.ErrVersion},
		{"version of what nothing reaches", mod("q", 100), api.ErrVersion},
	} {
		wantNoDowngrade(t, s, c.name, mods(t, "b2 a2"), c.m, c.want)
	}
	wantDowngrade(t, s, "b2 a2", "b1", "a1 b1")
}

func TestP11TheErrorsOfBuildComeFirst(t *testing.T) {
	s := shelf(t, "a1: b1", "b1", "c1: m1")
	for _, m := range []api.Mod{mod("b", 1), mod("a", 99), mod("z", 1), mod("?", 0), mod("b", 0), {}} {
		for _, c := range wrongRoots(t) {
			wantNoDowngrade(t, s, c.name, c.roots, m, c.want)
		}
		for _, missing := range []string{"c1", "a1 c1", "q1 a1", "a2", "b1 a1 m1"} {
			wantNoDowngrade(t, s, missing, mods(t, missing), m, api.ErrNone)
		}
	}
	wantDowngrade(t, s, "b1 a1", "b1", "a1 b1")
}

// TestP11WhatIsMissingIsNotMended, though a lesser version of the root would fit.
func TestP11WhatIsMissingIsNotMended(t *testing.T) {
	s := shelf(t, "a3: d3", "a1", "d1")
	wantNoDowngrade(t, s, "a need", mods(t, "a3"), mod("d", 1), api.ErrNone)
	wantNoDowngrade(t, s, "a root", mods(t, "a2"), mod("d", 1), api.ErrNone)
}

func TestP11DowngradeChangesNothing(t *testing.T) {
	s := shelf(t, "a2: c2 b1", "a1: c1", "b1", "c1", "c2")
	for range 3 {
		wantDowngrade(t, s, "a2", "c1", "a1")
		wantNoDowngrade(t, s, "version", mods(t, "a2"), mod("c", 0), api.ErrVersion)
		wantDowngrade(t, s, "a2", "n1", "a2")
		wantBuild(t, s, "a2", "a2 b1 c2")
	}
	wantNeeds(t, s, "a2", "b1 c2")
	wantLatest(t, s, "n", 0, api.ErrNone)
	wantLatest(t, s, "c", 2, api.OK)
	fill(t, s, "k", 5)
}

func TestP2DowngradeLeavesWhatIsHandedIn(t *testing.T) {
	s := shelf(t, "a2: d2", "a1", "b1: d2", "c2: d2", "c1: d1", "d1", "d2")
	whole := mods(t, "c2 b1 a2 x7 y8")
	if got, e := s.Downgrade(whole[:3], mod("d", 1)); e != api.OK || show(got) != "a1 c1" {
		t.Errorf("Downgrade = %s, %d", show(got), e)
	}
	if show(whole) != "c2 b1 a2 x7 y8" {
		t.Errorf("Downgrade wrote into the roots: %s", show(whole))
	}
}

func TestP2DowngradedRootsAreTheCallers(t *testing.T) {
	s := shelf(t, "a2: b2", "a1: b1", "b1", "b2", "c1")
	for version, want := range map[int]string{1: "a1 c1", 2: "a2 c1"} {
		named := mods(t, "a2 c1")
		wantCallers(t, want, func() []api.Mod {
			downgraded, _ := s.Downgrade(named, mod("b", version))
			return downgraded
		})
		if show(named) != "a2 c1" {
			t.Errorf("the answers share memory with the roots: %s", show(named))
		}
	}
	wantNeeds(t, s, "a2", "b2")
	wantBuild(t, s, "a2", "a2 b2")
}

func TestP2DowngradeSharesNoPathWithWhatIsHandedIn(t *testing.T) {
	s := shelf(t, "a2: b2", "a1: b1", "b1", "b2")
	letters := []byte("abb")
	path := func(i int) string { return unsafe.String(&letters[i], 1) }
	asIs, _ := s.Downgrade([]api.Mod{mod(path(0), 2)}, mod(path(1), 2))
	lower, _ := s.Downgrade([]api.Mod{mod(path(1), 2), mod(path(0), 2)}, mod(path(2), 1))
	letters[0], letters[1], letters[2] = 'u', 'v', 'w'
	if show(asIs) != "a2" || show(lower) != "a1 b1" {
		t.Errorf("the answers share memory with what was handed in: %s; %s", show(asIs), show(lower))
	}
	wantDowngrade(t, s, "a2", "b1", "a1")
}

func TestP1NoGoroutineGoesOnBehindDowngrade(t *testing.T) {
	s := shelf(t, "a2: h2", "a1: b1 c1 d1 e1 f1 g1", "b1: h1", "c1", "d1", "e1", "f1", "g1", "h1", "h2", "k1: n1 o1 p1 q1 r1 s1")
	wantNoneBehind(t, func() {
		wantDowngrade(t, s, "h2 a2", "h1", "a1 h1")
		wantNoDowngrade(t, s, "version", mods(t, "a2"), mod("h", 0), api.ErrVersion)
		wantNoDowngrade(t, s, "missing", mods(t, "a1 k1"), mod("h", 1), api.ErrNone)
		wantNoDowngrade(t, s, "twice", mods(t, "a1 a1"), mod("h", 1), api.ErrTwice)
		wantDowngrade(t, s, "", "h1", "")
	})
}
