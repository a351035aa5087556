package cairnway_test

import (
	"runtime"
	"slices"
	"strconv"
	"strings"
	"testing"
	"unsafe"

	"cairnway/api"
	"cairnway/cairnway"
)

// show tells modules as mods reads them.
func show(list []api.Mod) string {
	words := make([]string, len(list))
	for i, m := range list {
		words[i] = m.Path + strconv.Itoa(m.Version)
	}
	return strings.Join(words, " ")
}

func wantBuild(t *testing.T, s *cairnway.Shelf, roots, want string) {
	t.Helper()
	got, e, missing := s.Build(mods(t, roots))
	if show(got) != want || e != api.OK || missing != (api.Mod{}) {
		t.Errorf("Build(%s) = %s, %d, %v, want %s", roots, show(got), e, missing, want)
	}
}

func wantMissing(t *testing.T, s *cairnway.Shelf, roots, want string) {
	t.Helper()
	got, e, missing := s.Build(mods(t, roots))
	if got != nil || e != api.ErrNone || show([]api.Mod{missing}) != want {
		t.Errorf("Build(%s) = %v, %d, %v, want ErrNone with %s", roots, got, e, missing, want)
	}
}

func TestP7TheDocumentsExamples(t *testing.T) {
	s := shelf(t, "a1: b1 c1", "b1: d1", "c1: d2", "d1", "d2", "d3")
	wantBuild(t, s, "a1", "a1 b1 c1 d2")
	wantBuild(t, s, "b1", "b1 d1")
	wantBuild(t, s, "b1 d2", "b1 d2")
	wantBuild(t, s, "a1 d3", "a1 b1 c1 d3")
	wantErrno(t, "Publish(e1)", s.Publish(mod("e", 1), mods(t, "f7")), api.OK)
	wantMissing(t, s, "e1", "f7")
	wantErrno(t, "Retract(d3)", s.Retract(mod("d", 3)), api.OK)
	wantLatest(t, s, "d", 2, api.OK)
	wantBuild(t, s, "d3", "d3")
}

func TestP7BuildOfNothing(t *testing.T) {
	for _, s := range []*cairnway.Shelf{cairnway.New(), shelf(t, "a1: b1")} {
		wantBuild(t, s, "", "")
		if got, e, missing := s.Build([]api.Mod{}); len(got) != 0 || e != api.OK || missing != (api.Mod{}) {
			t.Errorf("Build of an empty list = %v, %d, %v", got, e, missing)
		}
	}
}

func TestP7BuildIsInOrderHoweverRootsAre(t *testing.T) {
	s := shelf(t, "z1: b10 aa1", "b10: ab2", "aa1", "ab2: a99", "a99", "y1")
	wantBuild(t, s, "z1 y1", "a99 aa1 ab2 b10 y1 z1")
	wantBuild(t, s, "y1 z1", "a99 aa1 ab2 b10 y1 z1")
	wantBuild(t, s, "b10 z1 aa1 y1 a99", "a99 aa1 ab2 b10 y1 z1")
}

func TestP7BuildTakesTheGreatestThatIsReached(t *testing.T) {
	s := shelf(t, "a1: c9", "b1: c10", "c1", "c9", "c10", "c11", "c99", "d1: a1 b1")
	wantBuild(t, s, "a1 b1", "a1 b1 c10")
	wantBuild(t, s, "d1", "a1 b1 c10 d1")
	wantBuild(t, s, "a1 c1", "a1 c9")
	wantBuild(t, s, "c11 d1", "a1 b1 c11 d1")
}

func TestP7WhatALesserVersionNeedsCounts(t *testing.T) {
	s := shelf(t, "r1: x1 s1", "s1: x2", "x1: y1", "x2", "y1: z1", "z1")
	wantBuild(t, s, "r1", "r1 s1 x2 y1 z1")
	wantBuild(t, s, "x1", "x1 y1 z1")
	wantBuild(t, s, "x2", "x2")
	wantBuild(t, s, "s1 x1", "s1 x2 y1 z1")
}

func TestP7BuildOfCircles(t *testing.T) {
	s := shelf(t, "a1: b1", "b1: a1", "c1: d1 a1", "d1: e1", "e1: c1")
	wantBuild(t, s, "a1", "a1 b1")
	wantBuild(t, s, "b1 a1", "a1 b1")
	wantBuild(t, s, "e1", "a1 b1 c1 d1 e1")
	// Round by round a circle comes to greater versions of itself.
	s = shelf(t, "p1: q1", "q1: p2", "p2: q2", "q2: p3", "p3: q1", "q3: p1")
	wantBuild(t, s, "p1", "p3 q2")
	wantBuild(t, s, "p3", "p3 q2")
	wantBuild(t, s, "q3", "p3 q3")
}

func TestP7RetractedAndUnreachedDoNotMatter(t *testing.T) {
	s := shelf(t, "a1: b1", "b1: c1", "b2: n1", "c1", "k1: n2")
	for _, m := range mods(t, "a1 b1 c1") {
		wantErrno(t, "Retract", s.Retract(m), api.OK)
	}
	wantBuild(t, s, "a1", "a1 b1 c1")
}

func TestP7TheFirstMissingInOrder(t *testing.T) {
	s := shelf(t, "a1: f7 c1", "b1: c1", "c1: g2", "g9", "l1: n10", "o1: l1 n9", "k1: ab1 aa2 b9")
	for _, c := range []struct{ name, roots, want string }{
		{"a need of a root", "a1", "f7"},
		{"behind others", "b1", "g2"},
		{"a root", "b2", "b2"},
		{"a version between", "g8", "g8"},
		{"the first by path, whichever root is first", "b1 a1", "f7"},
		{"the first by path, whichever root is first", "a1 b1", "f7"},
		{"a root ahead of a need", "a1 b2", "b2"},
		{"a need ahead of a root", "q1 b1", "g2"},
		{"of several roots", "z3 y2 x4 yy1", "x4"},
		{"of several needs", "k1", "aa2"},
		{"the lesser version of one path, as a number", "o1", "n9"},
		{"a root that is needed too", "n10 l1", "n10"},
	} {
		t.Run(c.name, func(t *testing.T) { wantMissing(t, s, c.roots, c.want) })
	}
	wantBuild(t, s, "g9", "g9")
}

func TestP7AllThatIsReachedMustBePublished(t *testing.T) {
	s := shelf(t, "r1: x1 s1", "s1: x2", "x1: y1", "x2", "u1: v1", "v2", "h1: i1", "i1: h1 j1")
	wantMissing(t, s, "r1", "y1") // though x2 is taken
	wantMissing(t, s, "u1 v2", "v1")
	wantMissing(t, s, "h1", "j1")
	wantBuild(t, s, "s1", "s1 x2")
	wantErrno(t, "Publish(y1)", s.Publish(mod("y", 1), nil), api.OK)
	wantBuild(t, s, "r1", "r1 s1 x2 y1")
}

func TestP7BuildOnAnEmptyShelf(t *testing.T) {
	wantMissing(t, cairnway.New(), "b1 a99 aa1", "a99")
}

func TestP7RootsAtTheEdges(t *testing.T) {
	longest := strings.Repeat("z", api.MaxPath)
	s := shelf(t, "a1", "b99", "c1", "d1", "e1", "f1", "g1", "h1", longest+"99: "+longest[1:]+"1", longest[1:]+"1")
	wantBuild(t, s, "h1 g1 f1 e1 d1 c1 b99 a1", "a1 b99 c1 d1 e1 f1 g1 h1")
	wantBuild(t, s, longest+"99", longest[1:]+"1 "+longest+"99")
	wantRootsRefused(t, s, "one too many", mods(t, "a1 b99 c1 d1 e1 f1 g1 h1 "+longest+"99"), api.ErrMany)
}

func wantRootsRefused(t *testing.T, s *cairnway.Shelf, name string, roots []api.Mod, want api.Errno) {
	t.Helper()
	kept := slices.Clone(roots)
	got, e, missing := s.Build(roots)
	if got != nil || e != want || missing != (api.Mod{}) {
		t.Errorf("%s: Build = %.20v, %d, %.20v, want %d", name, got, e, missing, want)
	}
	if !slices.Equal(roots, kept) {
		t.Errorf("%s: Build wrote into the roots", name)
	}
}

// wrong is a list of roots that is none.
type wrong struct {
	name  string
	roots []api.Mod
	want  api.Errno
}

// wrongRoots are for a shelf on which, of c 1's needs, something is missing.
func wrongRoots(t *testing.T) []wrong {
	t.Helper()
	long := strings.Repeat("a", api.MaxPath+1)
	return []wrong{
		{"one too many", mods(t, "a1 b1 c1 d1 e1 f1 g1 h1 i1"), api.ErrMany},
		{"many, one path", mods(t, "a1 a1 a1 a1 a1 a1 a1 a1 a1"), api.ErrMany},
		{"many and all else wrong", make([]api.Mod, api.MaxRoots+1), api.ErrMany},
		{"very many", make([]api.Mod, 1000000), api.ErrMany},
		{"no path", []api.Mod{mod("", 1)}, api.ErrPath},
		{"path too long", []api.Mod{mod(long, 1)}, api.ErrPath},
		{"path far too long", []api.Mod{mod(strings.Repeat("a", 1<<22), 1)}, api.ErrPath},
		{"path with another letter", []api.Mod{mod("a", 1), mod("bC", 1)}, api.ErrPath},
		{"path of no UTF-8", []api.Mod{mod("\xff", 1)}, api.ErrPath},
		{"path behind a version", []api.Mod{mod("a", 0), mod("", 1)}, api.ErrPath},
		{"path behind a path twice", []api.Mod{mod("a", 1), mod("a", 1), mod("?", 1)}, api.ErrPath},
		{"path behind what is missing", []api.Mod{mod("q", 1), mod("?", 1)}, api.ErrPath},
		{"all else wrong", []api.Mod{mod("q", 0), mod("q", 0), mod("?", 100)}, api.ErrPath},
		{"version zero", mods(t, "a0"), api.ErrVersion},
		{"version below zero", []api.Mod{mod("a", -farthest-1)}, api.ErrVersion},
		{"version too great", mods(t, "a1 b100"), api.ErrVersion},
		{"version far too great", []api.Mod{mod("a", farthest)}, api.ErrVersion},
		{"version ahead of a path twice", mods(t, "a1 a2 b0"), api.ErrVersion},
		{"version behind what is missing", mods(t, "c1 b0"), api.ErrVersion},
		{"path twice", mods(t, "a1 b1 a2"), api.ErrTwice},
		{"one root twice", mods(t, "a1 a1"), api.ErrTwice},
		{"path twice behind what is missing", mods(t, "c1 q1 q2"), api.ErrTwice},
	}
}

func TestP7BuildTellsTheFirstError(t *testing.T) {
	s := shelf(t, "a1: b1", "b1", "c1: m1")
	for _, c := range wrongRoots(t) {
		wantRootsRefused(t, s, c.name, c.roots, c.want)
	}
	wantBuild(t, s, "a1", "a1 b1")
}

func TestP7BuildChangesNothing(t *testing.T) {
	s := shelf(t, "a1: c1 b1", "b1", "c1: n1")
	for range 3 {
		wantMissing(t, s, "a1", "n1")
		wantBuild(t, s, "b1", "b1")
	}
	wantNeeds(t, s, "a1", "b1 c1")
	wantNoNeeds(t, s, mod("n", 1))
	wantLatest(t, s, "n", 0, api.ErrNone)
	fill(t, s, "k", 3)
}

func TestP2BuildLeavesWhatIsHandedIn(t *testing.T) {
	s := shelf(t, "a1", "b1", "c1: a2", "a2")
	whole := mods(t, "c1 b1 a1 x7 y8")
	if got, e, _ := s.Build(whole[:3]); e != api.OK || show(got) != "a2 b1 c1" {
		t.Errorf("Build = %s, %d", show(got), e)
	}
	if show(whole) != "c1 b1 a1 x7 y8" {
		t.Errorf("Build wrote into the roots: %s", show(whole))
	}
}

// wantCallers writes into answers and their spare room: nothing that came out besides, or comes out later, may be changed by that.
func wantCallers(t *testing.T, want string, ask func() []api.Mod) {
	t.Helper()
	for range 2 {
		first, second := ask(), ask()
		if show(first) != want {
			t.Errorf("the answer is %s, want %s", show(first), want)
		}
		first = first[:cap(first)]
		for i := range first {
			first[i] = mod("q", 9)
		}
		if show(second) != want {
			t.Errorf("two answers share memory: %s, want %s", show(second), want)
		}
	}
}

func TestP2BuildsAreTheCallers(t *testing.T) {
	s := shelf(t, "a1: b1 c1", "b1", "c1")
	wantCallers(t, "a1 b1 c1", func() []api.Mod {
		built, _, _ := s.Build(mods(t, "a1"))
		return built
	})
	wantNeeds(t, s, "a1", "b1 c1")
}

func TestP2BuildSharesNoPathWithItsRoots(t *testing.T) {
	s := shelf(t, "a1: b1", "b1")
	letters := []byte("abx")
	path := func(i int) string { return unsafe.String(&letters[i], 1) }
	built, _, _ := s.Build([]api.Mod{mod(path(1), 1), mod(path(0), 1)})
	_, _, missing := s.Build([]api.Mod{mod(path(2), 1)})
	letters[0], letters[1], letters[2] = 'u', 'v', 'w'
	if show(built) != "a1 b1" || missing != mod("x", 1) {
		t.Errorf("the answers share memory with the roots: %s; %v", show(built), missing)
	}
	wantBuild(t, s, "a1", "a1 b1")
}

func TestP2BuildsOfOtherShelves(t *testing.T) {
	one, other := shelf(t, "a1: b1", "b1"), shelf(t, "a1: c1", "c1", "b2")
	wantBuild(t, one, "a1", "a1 b1")
	wantBuild(t, other, "a1", "a1 c1")
	wantMissing(t, one, "b2", "b2")
	wantBuild(t, other, "b2", "b2")
}

// wantNoneBehind bears goroutines that are about to end, but none that stays.
func wantNoneBehind(t *testing.T, calls func()) {
	t.Helper()
	before := runtime.NumGoroutine()
	for range 100 {
		calls()
	}
	for range 1000000 {
		if runtime.NumGoroutine() <= before {
			return
		}
		runtime.Gosched()
	}
	t.Errorf("%d goroutines ahead of the calls, %d behind them", before, runtime.NumGoroutine())
}

func TestP1NoGoroutineGoesOnBehindBuild(t *testing.T) {
	s := shelf(t, "a1: b1 c1 d1 e1 f1 g1", "b1: h1", "c1", "d1", "e1", "f1", "g1", "h1", "k1: n1 o1 p1 q1 r1 s1")
	wantNoneBehind(t, func() {
		wantBuild(t, s, "a1", "a1 b1 c1 d1 e1 f1 g1 h1")
		wantMissing(t, s, "a1 k1", "n1")
		wantBuild(t, s, "", "")
		wantRootsRefused(t, s, "twice", mods(t, "a1 a1"), api.ErrTwice)
	})
}

// fullShelf has as many modules as may be, of seven paths: each needs all other paths, a version lower where there is one.
func fullShelf(t *testing.T) *cairnway.Shelf {
	t.Helper()
	s := cairnway.New()
	paths := []string{"a", "b", "c", "d", "e", "f", "g"}
	count := 0
	for version := 1; count < api.MaxMods; version++ {
		for i, path := range paths {
			if count == api.MaxMods {
				break
			}
			needs := slices.Delete(slices.Clone(paths), i, i+1)
			var list []api.Mod
			for _, need := range needs {
				list = append(list, mod(need, max(1, version-1)))
			}
			wantErrno(t, "Publish", s.Publish(mod(path, version), list), api.OK)
			count++
		}
	}
	return s
}

func TestP7BuildOfAFullShelf(t *testing.T) {
	s := fullShelf(t)
	for range 20 {
		wantBuild(t, s, "a1", "a1 b1 c1 d1 e1 f1 g1")
		wantBuild(t, s, "d9", "a8 b8 c8 d9 e8 f8 g8")
		wantBuild(t, s, "a9 d9 b8 g7", "a9 b8 c8 d9 e8 f8 g8")
		wantMissing(t, s, "g9 a9", "g9")
	}
}
