package cairnway_test

import (
	"slices"
	"strings"
	"testing"
	"unsafe"

	"cairnway/api"
	"cairnway/cairnway"
)

func wantWhy(t *testing.T, s *cairnway.Shelf, roots, path, want string) {
	t.Helper()
	got, e := s.Why(mods(t, roots), path)
	if show(got) != want || e != api.OK {
		t.Errorf("Why(%s; %s) = %s, %d, want %s", roots, path, show(got), e, want)
	}
}

func wantNoWay(t *testing.T, s *cairnway.Shelf, roots []api.Mod, path string, want api.Errno) {
	t.Helper()
	kept := slices.Clone(roots)
	if got, e := s.Why(roots, path); got != nil || e != want {
		t.Errorf("Why(%.20v; %.20q) = %v, %d, want %d", roots, path, got, e, want)
	}
	if !slices.Equal(roots, kept) {
		t.Errorf("Why(%.20v; %.20q) wrote into the roots", kept, path)
	}
}

func TestP8TheDocumentsExample(t *testing.T) {
	s := shelf(t, "a1: b1 c1", "b1: d1", "c1: d2", "d1", "d2", "d3")
	wantWhy(t, s, "a1", "d", "a1 c1 d2")
	wantWhy(t, s, "a1", "a", "a1")
	wantWhy(t, s, "a1", "b", "a1 b1")
	wantWhy(t, s, "a1", "c", "a1 c1")
	wantWhy(t, s, "b1 d2", "d", "d2")
	wantWhy(t, s, "a1 d3", "d", "d3")
	wantErrno(t, "Publish(e1)", s.Publish(mod("e", 1), mods(t, "f7")), api.OK)
	wantNoWay(t, s, mods(t, "e1"), "e", api.ErrNone)
	wantErrno(t, "Retract(d3)", s.Retract(mod("d", 3)), api.OK)
	wantWhy(t, s, "d3", "d", "d3")
}

func TestP8WhyLeadsToTheVersionThatTheBuildTakes(t *testing.T) {
	s := shelf(t, "a1: d9 b1", "b1: c1", "c1: d10", "d9", "d10", "d11")
	wantWhy(t, s, "a1", "d", "a1 b1 c1 d10") // though d9 is nearer, and d11 is there
	wantWhy(t, s, "a1 d9", "d", "a1 b1 c1 d10")
	wantWhy(t, s, "a1 d10", "d", "d10")
	wantWhy(t, s, "a1 d11", "d", "d11")
}

func TestP8ThroughAVersionThatTheBuildDoesNotTake(t *testing.T) {
	s := shelf(t, "r1: x1 s1", "s1: x2", "x1: y1", "x2", "y1: z1", "z1")
	wantBuild(t, s, "r1", "r1 s1 x2 y1 z1")
	wantWhy(t, s, "r1", "z", "r1 x1 y1 z1")
	wantWhy(t, s, "r1", "x", "r1 s1 x2")
	wantWhy(t, s, "s1 x1", "y", "x1 y1") // from a root that is not taken
}

func TestP8WhyIsTheShortest(t *testing.T) {
	s := shelf(t, "a1: b1 z1", "b1: c1", "c1: x1", "z1: x1", "x1: y1", "y1", "w1: v1", "v1: x1")
	wantWhy(t, s, "a1", "x", "a1 z1 x1") // though b1 is ahead of z1
	wantWhy(t, s, "a1", "y", "a1 z1 x1 y1")
	wantWhy(t, s, "a1 z1", "y", "z1 x1 y1")
	wantWhy(t, s, "a1 x1", "y", "x1 y1")
	wantWhy(t, s, "a1 y1", "y", "y1")
	wantWhy(t, s, "y1 x1 z1 a1", "a", "a1")
}

func TestP8TheFirstOfTwoWaysOfOneLength(t *testing.T) {
	s := shelf(t,
		"a1: c1 d1", "b1: c1 d1", "c1: e2", "d1: e1", "e1: x1", "e2: x1", "x1",
		"k1: ab1 b2", "ab1: o1", "b2: o1", "k9: b3 aa9", "b3: o1", "aa9: o1", "o1",
	)
	wantWhy(t, s, "b1 a1", "x", "a1 c1 e2 x1") // by the root, then by c1, though e1 is ahead of e2
	wantWhy(t, s, "b1", "x", "b1 c1 e2 x1")
	wantWhy(t, s, "d1 c1", "x", "c1 e2 x1")
	wantWhy(t, s, "k1", "o", "k1 ab1 o1")
	wantWhy(t, s, "k9", "o", "k9 aa9 o1")
	wantWhy(t, s, "b3 ab1", "o", "ab1 o1")
	wantWhy(t, s, "a1 k9", "o", "k9 aa9 o1")
}

func TestP8HoweverRootsAndNeedsAreHandedIn(t *testing.T) {
	want := "b1 c1 x1"
	for _, needs := range []string{"c1 d1", "d1 c1"} {
		s := shelf(t, "a1", "b1: "+needs, "e1: "+needs, "c1: x1", "d1: x1", "x1")
		for _, roots := range []string{"a1 b1 e1", "e1 b1 a1", "b1 e1 a1", "e1 a1 b1"} {
			for range 10 {
				wantWhy(t, s, roots, "x", want)
			}
		}
	}
}

func TestP8WhyInCircles(t *testing.T) {
	s := shelf(t, "a1: b1", "b1: a1", "c1: d1 a1", "d1: e1", "e1: c1")
	wantWhy(t, s, "a1", "b", "a1 b1")
	wantWhy(t, s, "b1", "b", "b1")
	wantWhy(t, s, "a1 b1", "b", "b1")
	wantWhy(t, s, "d1", "b", "d1 e1 c1 a1 b1")
	// Round by round a circle comes to greater versions of itself.
	s = shelf(t, "p1: q1", "q1: p2", "p2: q2", "q2: p3", "p3: q1", "q3: p1")
	wantWhy(t, s, "p1", "p", "p1 q1 p2 q2 p3")
	wantWhy(t, s, "p1", "q", "p1 q1 p2 q2")
	wantWhy(t, s, "p3", "q", "p3 q1 p2 q2")
	wantWhy(t, s, "q3", "q", "q3")
}

// TestP8TheLongestWay goes over every module of a full shelf.
func TestP8TheLongestWay(t *testing.T) {
	s := cairnway.New()
	var whole []api.Mod
	for i := range api.MaxMods {
		whole = append(whole, mod([]string{"k", "l"}[i%2], 1+i/2))
	}
	for i, m := range whole {
		wantErrno(t, "Publish", s.Publish(m, whole[i+1:min(i+2, len(whole))]), api.OK)
	}
	wantWhy(t, s, "k1", "l", show(whole))
	wantWhy(t, s, "k1", "k", show(whole[:len(whole)-1]))
	wantWhy(t, s, "k1 l15", "k", show(whole[29:len(whole)-1]))
}

func TestP8WhyOnAFullShelf(t *testing.T) {
	s := fullShelf(t)
	for range 20 {
		wantWhy(t, s, "a1", "g", "a1 g1")
		wantWhy(t, s, "d9", "d", "d9")
		wantWhy(t, s, "d9", "g", "d9 g8")
		wantWhy(t, s, "d9 a9", "g", "a9 g8")
		wantNoWay(t, s, mods(t, "g9 a9"), "a", api.ErrNone)
	}
}

func TestP8RootsAtTheEdges(t *testing.T) {
	longest := strings.Repeat("z", api.MaxPath)
	s := shelf(t, "a1", "b99: "+longest+"99", "c1", "d1", "e1", "f1", "g1", "h1", longest+"99")
	wantWhy(t, s, "h1 g1 f1 e1 d1 c1 b99 a1", longest, "b99 "+longest+"99")
	wantNoWay(t, s, mods(t, "a1 b99 c1 d1 e1 f1 g1 h1 "+longest+"99"), "a", api.ErrMany)
	for _, empty := range []*cairnway.Shelf{cairnway.New(), s} {
		wantNoWay(t, empty, nil, "a", api.ErrAbsent)
		wantNoWay(t, empty, []api.Mod{}, "a", api.ErrAbsent)
		wantNoWay(t, empty, nil, "", api.ErrAbsent)
	}
}

// absentPaths are in no build of which nothing but a and bb is reached.
func absentPaths() []string {
	return []string{
		"", "b", "bbb", "c", "d", "m", "A", "a1", "a ", "A!", "ä", "\xff", "a\x00",
		strings.Repeat("a", api.MaxPath+1), strings.Repeat("a", 1<<22),
	}
}

func TestP8AbsentIsAnyPathThatTheBuildHasNot(t *testing.T) {
	s := shelf(t, "a1: bb1", "a2: c1", "bb1", "c1", "d1: m1")
	for _, path := range absentPaths() {
		wantNoWay(t, s, mods(t, "a1"), path, api.ErrAbsent)
	}
	wantWhy(t, s, "a1", "bb", "a1 bb1")
}

func TestP8TheErrorsOfBuildComeFirst(t *testing.T) {
	s := shelf(t, "a1: b1", "b1", "c1: m1")
	for _, path := range []string{"a", "z", "?"} {
		for _, c := range wrongRoots(t) {
			wantNoWay(t, s, c.roots, path, c.want)
		}
		for _, missing := range []string{"c1", "a1 c1", "q1 a1", "a2"} {
			wantNoWay(t, s, mods(t, missing), path, api.ErrNone)
		}
	}
	wantWhy(t, s, "a1", "b", "a1 b1")
}

func TestP8WhyChangesNothing(t *testing.T) {
	s := shelf(t, "a1: c1 b1", "b1", "c1")
	for range 3 {
		wantWhy(t, s, "a1", "c", "a1 c1")
		wantNoWay(t, s, mods(t, "a1"), "n", api.ErrAbsent)
		wantBuild(t, s, "a1", "a1 b1 c1")
	}
	wantNeeds(t, s, "a1", "b1 c1")
	wantLatest(t, s, "n", 0, api.ErrNone)
	fill(t, s, "k", 3)
}

func TestP2WhyLeavesWhatIsHandedIn(t *testing.T) {
	s := shelf(t, "a1", "b1: d1", "c1: d1", "d1")
	whole := mods(t, "c1 b1 a1 x7 y8")
	if got, e := s.Why(whole[:3], "d"); e != api.OK || show(got) != "b1 d1" {
		t.Errorf("Why = %s, %d", show(got), e)
	}
	if show(whole) != "c1 b1 a1 x7 y8" {
		t.Errorf("Why wrote into the roots: %s", show(whole))
	}
}

func TestP2WaysAreTheCallers(t *testing.T) {
	s := shelf(t, "a1: b1", "b1: c1", "c1")
	wantCallers(t, "a1 b1 c1", func() []api.Mod {
		way, _ := s.Why(mods(t, "a1"), "c")
		return way
	})
	wantNeeds(t, s, "a1", "b1")
}

func TestP2WhySharesNoPathWithWhatIsHandedIn(t *testing.T) {
	s := shelf(t, "a1: b1", "b1")
	letters := []byte("ab")
	path := func(i int) string { return unsafe.String(&letters[i], 1) }
	way, _ := s.Why([]api.Mod{mod(path(0), 1)}, path(1))
	root, _ := s.Why([]api.Mod{mod(path(0), 1)}, path(0))
	letters[0], letters[1] = 'u', 'v'
	if show(way) != "a1 b1" || show(root) != "a1" {
		t.Errorf("the answers share memory with what was handed in: %s; %s", show(way), show(root))
	}
	wantWhy(t, s, "a1", "b", "a1 b1")
}

func TestP1NoGoroutineGoesOnBehindWhy(t *testing.T) {
	s := shelf(t, "a1: b1 c1 d1 e1 f1 g1", "b1: h1", "c1", "d1", "e1", "f1", "g1", "h1", "k1: n1 o1 p1 q1 r1 s1")
	wantNoneBehind(t, func() {
		wantWhy(t, s, "a1", "h", "a1 b1 h1")
		wantNoWay(t, s, mods(t, "a1"), "k", api.ErrAbsent)
		wantNoWay(t, s, mods(t, "a1 k1"), "h", api.ErrNone)
		wantNoWay(t, s, mods(t, "a1 a1"), "h", api.ErrTwice)
		wantNoWay(t, s, nil, "h", api.ErrAbsent)
	})
}
