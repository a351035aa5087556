package cairnway_test

import (
	"cmp"
	"slices"
	"strconv"
	"testing"

	"cairnway/api"
	"cairnway/cairnway"
)

// chance makes numbers that look like chance, but are the same in every run.
type chance uint64

func (c *chance) below(n int) int {
	*c = *c*6364136223846793005 + 1442695040888963407
	return int(uint64(*c)>>33) % n
}

// some gives modules of different paths, less those of the path that is left out.
func (c *chance) some(most int, leftOut string) []api.Mod {
	var list []api.Mod
	for range c.below(most + 1) {
		m := mod(string(rune('a'+c.below(9))), 1+c.below(4))
		taken := slices.ContainsFunc(list, func(other api.Mod) bool { return other.Path == m.Path })
		if m.Path != leftOut && !taken {
			list = append(list, m)
		}
	}
	return list
}

// graph is what a test knows of a shelf of its own.
type graph map[api.Mod][]api.Mod

// publishSome publishes modules by chance, on the shelf and in the graph.
func (c *chance) publishSome(t *testing.T, s *cairnway.Shelf, g graph, times int) {
	t.Helper()
	for range times {
		c.publish(t, s, g, mod(string(rune('a'+c.below(9))), 1+c.below(4)), 3)
	}
}

// publishMost leaves hardly a module out, so that most builds have no error.
func (c *chance) publishMost(t *testing.T, s *cairnway.Shelf, g graph) {
	t.Helper()
	for path := 'a'; path <= 'i'; path++ {
		for version := 1; version <= 4; version++ {
			if c.below(100) > 0 {
				c.publish(t, s, g, mod(string(path), version), 2)
			}
		}
	}
}

func (c *chance) publish(t *testing.T, s *cairnway.Shelf, g graph, m api.Mod, mostNeeds int) {
	t.Helper()
	needs := c.some(mostNeeds, m.Path)
	want := api.OK
	if _, ok := g[m]; ok {
		want = api.ErrThere
	} else {
		g[m] = needs
	}
	wantErrno(t, "Publish", s.Publish(m, needs), want)
}

func inOrder(a, b api.Mod) int {
	return cmp.Or(cmp.Compare(a.Path, b.Path), cmp.Compare(a.Version, b.Version))
}

// build is P7 told once more in the plainest way: it goes over all the graph until nothing more is reached.
func (g graph) build(roots []api.Mod) (built []api.Mod, missing []api.Mod) {
	reached := slices.Clone(roots)
	for before := -1; before < len(reached); {
		before = len(reached)
		for _, m := range reached {
			for _, need := range g[m] {
				if !slices.Contains(reached, need) {
					reached = append(reached, need)
				}
			}
		}
	}
	for _, m := range reached {
		if _, ok := g[m]; !ok {
			missing = append(missing, m)
		}
	}
	slices.SortFunc(missing, inOrder)
	return greatest(reached), missing
}

// greatest gives of each path the module with the greatest version, in order.
func greatest(list []api.Mod) []api.Mod {
	versions := make(map[string]int)
	for _, m := range list {
		versions[m.Path] = max(versions[m.Path], m.Version)
	}
	var modules []api.Mod
	for path, version := range versions {
		modules = append(modules, mod(path, version))
	}
	slices.SortFunc(modules, inOrder)
	return modules
}

func TestP7AgainstAPlainBuild(t *testing.T) {
	c := chance(7)
	fine, failed := 0, 0
	for range 300 {
		s, g := cairnway.New(), graph{}
		c.publishSome(t, s, g, 20+c.below(60))
		for range 10 {
			roots := c.some(api.MaxRoots, "")
			built, missing := g.build(roots)
			if len(missing) > 0 {
				failed++
				wantMissing(t, s, show(roots), show(missing[:1]))
				continue
			}
			fine++
			wantBuild(t, s, show(roots), show(built))
		}
	}
	if fine < 100 || failed < 100 {
		t.Errorf("the test is lopsided: %d builds, %d without one", fine, failed)
	}
}

// way is P8 told once more in the plainest way: the first way of this length, if there is one.
func (g graph) way(from []api.Mod, to api.Mod, length int) []api.Mod {
	for _, m := range slices.SortedFunc(slices.Values(from), inOrder) {
		if length == 1 && m == to {
			return []api.Mod{m}
		}
		if length > 1 {
			if rest := g.way(g[m], to, length-1); rest != nil {
				return append([]api.Mod{m}, rest...)
			}
		}
	}
	return nil
}

func (g graph) shortestWay(roots []api.Mod, to api.Mod) []api.Mod {
	length := 1
	for g.way(roots, to, length) == nil {
		length++
	}
	return g.way(roots, to, length)
}

func TestP8AgainstAPlainWay(t *testing.T) {
	c := chance(8)
	lengths := make(map[int]int)
	absent := 0
	for range 400 {
		s, g := cairnway.New(), graph{}
		c.publishMost(t, s, g)
		roots := c.some(1+c.below(3), "")
		built, missing := g.build(roots)
		for path := 'a'; path <= 'i'; path++ {
			at := slices.IndexFunc(built, func(m api.Mod) bool { return m.Path == string(path) })
			switch {
			case len(missing) > 0:
				wantNoWay(t, s, roots, string(path), api.ErrNone)
			case at < 0:
				absent++
				wantNoWay(t, s, roots, string(path), api.ErrAbsent)
			default:
				way := g.shortestWay(roots, built[at])
				lengths[len(way)]++
				wantWhy(t, s, show(roots), string(path), show(way))
			}
		}
	}
	if absent < 100 || lengths[1] < 100 || lengths[2] < 100 || lengths[3] < 100 || lengths[4] < 30 {
		t.Errorf("the test is lopsided: %d absent, ways by length %v", absent, lengths)
	}
}

// tidy is P9 told once more in the plainest way.
func (g graph) tidy(roots []api.Mod) []api.Mod {
	left := slices.SortedFunc(slices.Values(roots), inOrder)
	whole, _ := g.build(roots)
	for _, root := range slices.Backward(slices.Clone(left)) {
		without := slices.DeleteFunc(slices.Clone(left), func(m api.Mod) bool { return m == root })
		if built, _ := g.build(without); slices.Equal(built, whole) {
			left = without
		}
	}
	return left
}

func TestP9AgainstAPlainTidy(t *testing.T) {
	c := chance(9)
	asIs, less := 0, 0
	for round := range 400 {
		s, g := cairnway.New(), graph{}
		c.publishMost(t, s, g)
		roots := c.some(api.MaxRoots, "")
		if _, missing := g.build(roots); len(missing) > 0 {
			wantUntidied(t, s, strconv.Itoa(round), roots, api.ErrNone)
			continue
		}
		want := g.tidy(roots)
		wantTidy(t, s, show(roots), show(want))
		if len(want) < len(roots) {
			less++
		} else {
			asIs++
		}
	}
	if asIs < 50 || less < 50 {
		t.Errorf("the test is lopsided: %d as they were, %d less some", asIs, less)
	}
}

// TestP9WhatIsTidiedBuildsTheSame and none of it can be spared.
func TestP9WhatIsTidiedBuildsTheSame(t *testing.T) {
	c := chance(99)
	spared := 0
	for range 300 {
		s, g := cairnway.New(), graph{}
		c.publishMost(t, s, g)
		roots := c.some(api.MaxRoots, "")
		built, e, _ := s.Build(roots)
		left, f := s.Tidy(roots)
		wantErrno(t, "Tidy("+show(roots)+")", f, e)
		if e != api.OK {
			continue
		}
		spared += len(roots) - len(left)
		wantBuild(t, s, show(left), show(built))
		wantTidy(t, s, show(left), show(left))
		for i := range left {
			without := slices.Delete(slices.Clone(left), i, i+1)
			if fewer, _, _ := s.Build(without); slices.Equal(fewer, built) {
				t.Errorf("Tidy(%s) = %s, but %s builds the same", show(roots), show(left), show(without))
			}
		}
	}
	if spared < 50 {
		t.Errorf("the test is lopsided: %d roots were spared", spared)
	}
}

// retractSome retracts modules by chance, and tells which.
func (c *chance) retractSome(t *testing.T, s *cairnway.Shelf, g graph, times int) map[api.Mod]bool {
	t.Helper()
	retracted := make(map[api.Mod]bool)
	for range times {
		m := mod(string(rune('a'+c.below(9))), 1+c.below(4))
		if _, ok := g[m]; ok && !retracted[m] {
			wantErrno(t, "Retract", s.Retract(m), api.OK)
			retracted[m] = true
		}
	}
	return retracted
}

// versionOf is 0, where there is no module of this path.
func versionOf(list []api.Mod, path string) int {
	for _, m := range list {
		if m.Path == path {
			return m.Version
		}
	}
	return 0
}

// upgrade is P10 told once more in the plainest way, for roots of which nothing is missing.
func (g graph) upgrade(roots []api.Mod, path string, retracted map[api.Mod]bool) ([]api.Mod, api.Errno) {
	built, _ := g.build(roots)
	has, latest := versionOf(built, path), 0
	for m := range g {
		if m.Path == path && !retracted[m] {
			latest = max(latest, m.Version)
		}
	}
	upgraded := slices.SortedFunc(slices.Values(roots), inOrder)
	switch {
	case has == 0:
		return nil, api.ErrAbsent
	case latest <= has:
		return upgraded, api.OK
	case versionOf(roots, path) > 0:
		for i := range upgraded {
			if upgraded[i].Path == path {
				upgraded[i].Version = latest
			}
		}
		return upgraded, api.OK
	case len(roots) == api.MaxRoots:
		return nil, api.ErrMany
	}
	return slices.SortedFunc(slices.Values(append(upgraded, mod(path, latest))), inOrder), api.OK
}

func TestP10AgainstAPlainUpgrade(t *testing.T) {
	c := chance(10)
	as, more, instead := 0, 0, 0
	errors := make(map[api.Errno]int)
	for range 500 {
		s, g := cairnway.New(), graph{}
		c.publishMost(t, s, g)
		retracted := c.retractSome(t, s, g, c.below(40))
		roots := c.some(1+c.below(60), "")
		roots = roots[:min(len(roots), api.MaxRoots)]
		_, missing := g.build(roots)
		for path := 'a'; path <= 'i'; path++ {
			want, e := g.upgrade(roots, string(path), retracted)
			if len(missing) > 0 {
				e = api.ErrNone
			}
			errors[e]++
			if e != api.OK {
				wantNoUpgrade(t, s, roots, string(path), e)
				continue
			}
			wantUpgrade(t, s, show(roots), string(path), show(want))
			switch {
			case len(want) > len(roots):
				more++
			case slices.Equal(want, slices.SortedFunc(slices.Values(roots), inOrder)):
				as++
			default:
				instead++
			}
		}
	}
	if as < 100 || more < 100 || instead < 100 || errors[api.ErrNone] < 100 || errors[api.ErrAbsent] < 100 || errors[api.ErrMany] < 30 {
		t.Errorf("the test is lopsided: %d as they were, %d with one more, %d with one in place, errors %v", as, more, instead, errors)
	}
}

// downgrade is P11 told once more in the plainest way, for roots of which nothing is missing.
func (g graph) downgrade(roots []api.Mod, m api.Mod) []api.Mod {
	var fitting []api.Mod
	for tried := range g {
		built, missing := g.build([]api.Mod{tried})
		if tried.Version <= versionOf(roots, tried.Path) && len(missing) == 0 && versionOf(built, m.Path) <= m.Version {
			fitting = append(fitting, tried)
		}
	}
	return greatest(fitting)
}

func TestP11AgainstAPlainDowngrade(t *testing.T) {
	c := chance(11)
	as, less, lower, failed := 0, 0, 0, 0
	for range 400 {
		s, g := cairnway.New(), graph{}
		c.publishMost(t, s, g)
		c.retractSome(t, s, g, c.below(40))
		roots := c.some(api.MaxRoots, "")
		_, missing := g.build(roots)
		for path := 'a'; path <= 'i'; path++ {
			m := mod(string(path), 1+c.below(4))
			if len(missing) > 0 {
				failed++
				wantNoDowngrade(t, s, show(roots), roots, m, api.ErrNone)
				continue
			}
			want := g.downgrade(roots, m)
			wantDowngrade(t, s, show(roots), show([]api.Mod{m}), show(want))
			switch {
			case len(want) < len(roots):
				less++
			case slices.Equal(want, slices.SortedFunc(slices.Values(roots), inOrder)):
				as++
			default:
				lower++
			}
		}
	}
	if as < 100 || less < 100 || lower < 100 || failed < 100 {
		t.Errorf("the test is lopsided: %d as they were, %d less some, %d lower, %d without a build", as, less, lower, failed)
	}
}

func TestP12WhatDowngradeTellsBuilds(t *testing.T) {
	c := chance(112)
	held, lower := 0, 0
	for range 500 {
		s, g := cairnway.New(), graph{}
		c.publishMost(t, s, g)
		c.retractSome(t, s, g, c.below(20))
		roots := c.some(api.MaxRoots, "")
		before, e, _ := s.Build(roots)
		for path := 'a'; path <= 'i'; path++ {
			m := mod(string(path), 1+c.below(4))
			told, f := s.Downgrade(roots, m)
			wantErrno(t, "Downgrade("+show(roots)+")", f, e)
			if e != api.OK {
				continue
			}
			held++
			built, e, missing := s.Build(told)
			if e != api.OK || versionOf(built, m.Path) > m.Version {
				t.Errorf("Downgrade(%s; %v) = %s, which builds %s, %d, %v", show(roots), m, show(told), show(built), e, missing)
			}
			if versionOf(before, m.Path) > m.Version {
				lower++
			}
			wantDowngrade(t, s, show(told), show([]api.Mod{m}), show(told))
		}
	}
	if held < 500 || lower < 200 {
		t.Errorf("the test is lopsided: %d builds, of which %d had to go back", held, lower)
	}
}

func TestP12WhatIsPublishedOrRetractedChangesNoBuild(t *testing.T) {
	c := chance(12)
	held := 0
	for range 200 {
		s, g := cairnway.New(), graph{}
		c.publishSome(t, s, g, 20+c.below(30))
		roots := c.some(3, "")
		built, e, _ := s.Build(roots)
		if e != api.OK {
			continue
		}
		held++
		for range 10 {
			c.publishSome(t, s, g, 2)
			s.Retract(mod(string(rune('a'+c.below(9))), 1+c.below(4)))
			wantBuild(t, s, show(roots), show(built))
		}
		for _, m := range built {
			s.Retract(m)
			s.Publish(mod(m.Path, api.MaxVersion), nil)
		}
		wantBuild(t, s, show(roots), show(built))
	}
	if held < 50 {
		t.Errorf("the test is lopsided: %d builds", held)
	}
}

func TestP12TwoListsOfRootsTogether(t *testing.T) {
	c := chance(21)
	held := 0
	for round := range 300 {
		s, g := cairnway.New(), graph{}
		c.publishSome(t, s, g, 80)
		roots := c.some(api.MaxRoots, "")
		cut := c.below(len(roots) + 1)
		one, e, _ := s.Build(roots[:cut])
		other, f, _ := s.Build(roots[cut:])
		together, both, _ := s.Build(roots)
		name := strconv.Itoa(round) + ": Build(" + show(roots) + ")"
		wantErrno(t, name, both, max(e, f))
		if both != api.OK {
			continue
		}
		held++
		if want := greatest(append(one, other...)); !slices.Equal(together, want) {
			t.Errorf("%s = %s, want %s, as of the two cut at %d", name, show(together), show(want), cut)
		}
	}
	if held < 50 {
		t.Errorf("the test is lopsided: %d builds", held)
	}
}
