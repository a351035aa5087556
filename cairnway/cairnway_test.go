package cairnway_test

import (
	"slices"
	"strconv"
	"strings"
	"testing"
	"unsafe"

	"cairnway/api"
	"cairnway/cairnway"
)

const farthest = int(^uint(0) >> 1)

func mod(path string, version int) api.Mod {
	return api.Mod{Path: path, Version: version}
}

// mods reads modules, as "a1 b2".
func mods(t *testing.T, text string) []api.Mod {
	t.Helper()
	var list []api.Mod
	for _, word := range strings.Fields(text) {
		path := strings.TrimRight(word, "0123456789")
		version, err := strconv.Atoi(word[len(path):])
		if err != nil {
			t.Fatalf("the test's own module %q", word)
		}
		list = append(list, mod(path, version))
	}
	return list
}

// shelf publishes modules, each as "a1: b2 c3".
func shelf(t *testing.T, texts ...string) *cairnway.Shelf {
	t.Helper()
	s := cairnway.New()
	for _, text := range texts {
		m, needs, _ := strings.Cut(text, ":")
		wantErrno(t, "Publish("+text+")", s.Publish(mods(t, m)[0], mods(t, needs)), api.OK)
	}
	return s
}

// fill publishes modules of a path until the shelf holds as many as may be.
func fill(t *testing.T, s *cairnway.Shelf, path string, held int) {
	t.Helper()
	for version := 1; version <= api.MaxMods-held; version++ {
		wantErrno(t, "Publish", s.Publish(mod(path, version), nil), api.OK)
	}
}

func wantErrno(t *testing.T, what string, got, want api.Errno) {
	t.Helper()
	if got != want {
		t.Errorf("%s = %d, want %d", what, got, want)
	}
}

func wantLatest(t *testing.T, s *cairnway.Shelf, path string, version int, errno api.Errno) {
	t.Helper()
	if v, e := s.Latest(path); v != version || e != errno {
		t.Errorf("Latest(%.20q) = %d, %d, want %d, %d", path, v, e, version, errno)
	}
}

func wantNeeds(t *testing.T, s *cairnway.Shelf, m string, needs string) {
	t.Helper()
	got, e := s.Needs(mods(t, m)[0])
	if want := mods(t, needs); e != api.OK || !slices.Equal(got, want) {
		t.Errorf("Needs(%s) = %v, %d, want %v", m, got, e, want)
	}
}

func wantNoNeeds(t *testing.T, s *cairnway.Shelf, m api.Mod) {
	t.Helper()
	if got, e := s.Needs(m); len(got) != 0 || e != api.ErrNone {
		t.Errorf("Needs(%.20q %d) = %v, %d, want ErrNone", m.Path, m.Version, got, e)
	}
}

func TestP3NewHasNothingPublished(t *testing.T) {
	s := cairnway.New()
	if s == nil {
		t.Fatal("New = nil")
	}
	wantLatest(t, s, "a", 0, api.ErrNone)
	wantNoNeeds(t, s, mod("a", 1))
	wantErrno(t, "Retract", s.Retract(mod("a", 1)), api.ErrNone)
	fill(t, s, "a", 0)
}

func TestP4PublishTakesTheEdges(t *testing.T) {
	longest := strings.Repeat("z", api.MaxPath)
	s := shelf(t,
		"a1",
		"a99: b1 c2 d3 e4 f5 g99",
		longest+"1: a1",
		longest+"99: "+strings.Repeat("y", api.MaxPath)+"99",
	)
	wantNeeds(t, s, "a1", "")
	wantNeeds(t, s, "a99", "b1 c2 d3 e4 f5 g99")
	wantNeeds(t, s, longest+"1", "a1")
	wantNeeds(t, s, longest+"99", strings.Repeat("y", api.MaxPath)+"99")
}

func TestP4PublishTellsTheFirstError(t *testing.T) {
	s := shelf(t, "a1: b1")
	long := strings.Repeat("a", api.MaxPath+1)
	for _, c := range []struct {
		name  string
		m     api.Mod
		needs []api.Mod
		want  api.Errno
	}{
		{"a need too many", mod("c", 1), mods(t, "d1 e1 f1 g1 h1 i1 j1"), api.ErrMany},
		{"many and all else wrong", mod("", 0), make([]api.Mod, api.MaxNeeds+1), api.ErrMany},
		{"very many", mod("c", 1), make([]api.Mod, 1000000), api.ErrMany},
		{"no path", mod("", 1), nil, api.ErrPath},
		{"path too long", mod(long, 1), nil, api.ErrPath},
		{"path far too long", mod(strings.Repeat("a", 1<<22), 1), nil, api.ErrPath},
		{"path with another letter", mod("aB", 1), nil, api.ErrPath},
		{"need without a path", mod("c", 1), []api.Mod{mod("d", 1), mod("", 1)}, api.ErrPath},
		{"need with a long path", mod("c", 1), []api.Mod{mod(long, 1)}, api.ErrPath},
		{"need's path ahead of m's version", mod("c", 0), []api.Mod{mod("?", 1)}, api.ErrPath},
		{"m's path ahead of twice", mod("?", 1), mods(t, "d1 d2"), api.ErrPath},
		{"version zero", mod("c", 0), nil, api.ErrVersion},
		{"version below zero", mod("c", -farthest-1), nil, api.ErrVersion},
		{"version too great", mod("c", api.MaxVersion+1), nil, api.ErrVersion},
		{"version far too great", mod("c", farthest), nil, api.ErrVersion},
		{"need's version zero", mod("c", 1), mods(t, "d1 e0"), api.ErrVersion},
		{"need's version too great", mod("c", 1), mods(t, "d100"), api.ErrVersion},
		{"need's version ahead of twice", mod("c", 1), mods(t, "c1 d1 d2 e0"), api.ErrVersion},
		{"two needs of one path", mod("c", 1), mods(t, "d1 e1 d2"), api.ErrTwice},
		{"one need twice", mod("c", 1), mods(t, "d1 d1"), api.ErrTwice},
		{"need of m's path", mod("c", 2), mods(t, "d1 c1"), api.ErrTwice},
		{"twice ahead of there", mod("a", 1), mods(t, "a2"), api.ErrTwice},
		{"there", mod("a", 1), nil, api.ErrThere},
		{"there with other needs", mod("a", 1), mods(t, "c1"), api.ErrThere},
	} {
		needs := slices.Clone(c.needs)
		wantErrno(t, c.name, s.Publish(c.m, c.needs), c.want)
		if !slices.Equal(needs, c.needs) {
			t.Errorf("%s: Publish wrote into needs", c.name)
		}
	}
	wantNeeds(t, s, "a1", "b1")
	wantLatest(t, s, "a", 1, api.OK)
	wantLatest(t, s, "c", 0, api.ErrNone)
	fill(t, s, "k", 1)
}

func TestP4PublishOnAFullShelf(t *testing.T) {
	s := shelf(t, "a1: b1", "c1")
	wantErrno(t, "Retract", s.Retract(mod("c", 1)), api.OK)
	fill(t, s, "k", 2)
	wantErrno(t, "one more", s.Publish(mod("b", 1), nil), api.ErrFull)
	wantErrno(t, "one more with needs", s.Publish(mod("b", 1), mods(t, "c1")), api.ErrFull)
	wantErrno(t, "there ahead of full", s.Publish(mod("a", 1), nil), api.ErrThere)
	wantErrno(t, "retracted ahead of full", s.Publish(mod("c", 1), nil), api.ErrThere)
	wantErrno(t, "twice ahead of full", s.Publish(mod("b", 1), mods(t, "b2")), api.ErrTwice)
	wantErrno(t, "version ahead of full", s.Publish(mod("b", 0), nil), api.ErrVersion)
	wantErrno(t, "path ahead of full", s.Publish(mod("", 1), nil), api.ErrPath)
	wantErrno(t, "many ahead of full", s.Publish(mod("b", 1), make([]api.Mod, 7)), api.ErrMany)
	wantNoNeeds(t, s, mod("b", 1))
	wantLatest(t, s, "b", 0, api.ErrNone)
	wantLatest(t, s, "k", api.MaxMods-2, api.OK)
}

func TestP5Retract(t *testing.T) {
	s := shelf(t, "a1: b1", "a2")
	wantErrno(t, "Retract(a2)", s.Retract(mod("a", 2)), api.OK)
	wantErrno(t, "Retract(a2) again", s.Retract(mod("a", 2)), api.ErrTwice)
	wantErrno(t, "Publish(a2) again", s.Publish(mod("a", 2), nil), api.ErrThere)
	wantErrno(t, "Retract(a2) yet again", s.Retract(mod("a", 2)), api.ErrTwice)
	wantLatest(t, s, "a", 1, api.OK)
	for _, m := range []api.Mod{
		{}, mod("b", 1), mod("a", 3), mod("a", 0), mod("a", -farthest-1), mod("a", farthest), mod("A", 1), mod("", 1),
		mod("aa", 1), mod(strings.Repeat("a", 1<<22), 1),
	} {
		wantErrno(t, "Retract of none", s.Retract(m), api.ErrNone)
	}
	wantLatest(t, s, "a", 1, api.OK)
	wantErrno(t, "Retract(a1)", s.Retract(mod("a", 1)), api.OK)
	wantLatest(t, s, "a", 0, api.ErrNone)
	wantNeeds(t, s, "a1", "b1")
}

func TestP5RetractedBeforePublishedIsNot(t *testing.T) {
	s := cairnway.New()
	wantErrno(t, "Retract", s.Retract(mod("a", 1)), api.ErrNone)
	wantErrno(t, "Publish", s.Publish(mod("a", 1), nil), api.OK)
	wantLatest(t, s, "a", 1, api.OK)
}

func TestP6Latest(t *testing.T) {
	s := shelf(t, "a2: d7", "a10", "a9", "b99", "b1", "aa50")
	wantLatest(t, s, "a", 10, api.OK)
	wantLatest(t, s, "b", 99, api.OK)
	wantLatest(t, s, "aa", 50, api.OK)
	for _, path := range []string{"", "c", "d", "A", "aaa", "a ", "\xff", strings.Repeat("a", 1<<22)} {
		wantLatest(t, s, path, 0, api.ErrNone)
	}
	wantErrno(t, "Retract(a9)", s.Retract(mod("a", 9)), api.OK)
	wantLatest(t, s, "a", 10, api.OK)
	wantErrno(t, "Retract(a10)", s.Retract(mod("a", 10)), api.OK)
	wantLatest(t, s, "a", 2, api.OK)
	wantErrno(t, "Publish(a3)", s.Publish(mod("a", 3), nil), api.OK)
	wantLatest(t, s, "a", 3, api.OK)
	wantLatest(t, s, "b", 99, api.OK)
}

func TestP6LatestOfTheDocumentsExample(t *testing.T) {
	s := shelf(t, "a1: b1 c1", "b1: d1", "c1: d2", "d1", "d2", "d3")
	wantLatest(t, s, "d", 3, api.OK)
	wantErrno(t, "Retract(d3)", s.Retract(mod("d", 3)), api.OK)
	wantLatest(t, s, "d", 2, api.OK)
}

func TestP6NeedsInOrder(t *testing.T) {
	s := shelf(t, "k1: z1 b10 aa3 a99 ab1 ba2", "k2: c1", "k3")
	wantNeeds(t, s, "k1", "a99 aa3 ab1 b10 ba2 z1")
	wantNeeds(t, s, "k2", "c1")
	wantNeeds(t, s, "k3", "")
	for _, m := range []api.Mod{
		{}, mod("k", 4), mod("k", 0), mod("k", -1), mod("c", 1), mod("K", 1), mod("", 1), mod("k", farthest),
		mod(strings.Repeat("k", 1<<22), 1),
	} {
		wantNoNeeds(t, s, m)
	}
}

func TestP2PublishLeavesWhatIsHandedIn(t *testing.T) {
	s := cairnway.New()
	whole := mods(t, "d4 c3 b2 x7 y8")
	needs := whole[:3]
	wantErrno(t, "Publish", s.Publish(mod("a", 1), needs), api.OK)
	if !slices.Equal(whole, mods(t, "d4 c3 b2 x7 y8")) {
		t.Errorf("Publish wrote into needs: %v", whole)
	}
	for i := range whole {
		whole[i] = mod("q", 9)
	}
	wantNeeds(t, s, "a1", "b2 c3 d4")
}

func TestP2NeedsAreTheCallers(t *testing.T) {
	s := shelf(t, "a1: b1 c1")
	first, _ := s.Needs(mod("a", 1))
	second, _ := s.Needs(mod("a", 1))
	first = append(first[:1], mod("q", 9), mod("q", 9))
	first[0] = mod("q", 9)
	if !slices.Equal(second, mods(t, "b1 c1")) {
		t.Errorf("two answers share memory: %v", second)
	}
	wantNeeds(t, s, "a1", "b1 c1")
}

func TestP2NoPathIsKeptAsItIs(t *testing.T) {
	s := cairnway.New()
	letters := []byte("ab")
	path := func(i int) string { return unsafe.String(&letters[i], 1) }
	wantErrno(t, "Publish", s.Publish(mod(path(0), 1), []api.Mod{mod(path(1), 1)}), api.OK)
	wantErrno(t, "Retract", s.Retract(mod(path(0), 1)), api.OK)
	wantErrno(t, "Publish", s.Publish(mod(path(0), 2), nil), api.OK)
	wantErrno(t, "Publish again", s.Publish(mod(path(0), 2), nil), api.ErrThere)
	letters[0], letters[1] = 'x', 'y'
	wantNeeds(t, s, "a1", "b1")
	wantLatest(t, s, "a", 2, api.OK)
	wantErrno(t, "Retract again", s.Retract(mod("a", 1)), api.ErrTwice)
}

func TestP2ShelvesDoNotChangeOneAnother(t *testing.T) {
	one, other := shelf(t, "a1: b1"), shelf(t, "a1: c1", "a2")
	wantErrno(t, "Retract on the other", other.Retract(mod("a", 1)), api.OK)
	wantLatest(t, one, "a", 1, api.OK)
	wantNeeds(t, one, "a1", "b1")
	wantNeeds(t, other, "a1", "c1")
	fill(t, other, "k", 2)
	wantErrno(t, "Publish on the one", one.Publish(mod("a", 2), nil), api.OK)
	wantErrno(t, "Retract on the one", one.Retract(mod("a", 1)), api.OK)
}
