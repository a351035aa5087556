package cairnway_test

import (
	"cmp"
	"slices"
	"strconv"
	"testing"

	"cairnway/api"
	"cairnway/cairnway"
)

// chance makes numbers that look like chance, but are the same in every run.
type chance uint64

func (c *chance) below(n int) int {
	*c = *c*6364136223846793005 + 1442695040888963407
	return int(uint64(*c)>>33) % n
}

// some gives modules of different paths, less those of the path that is left out.
func (c *chance) some(most int, leftOut string) []api.Mod {
	var list []api.Mod
	for range c.below(most + 1) {
		m := mod(string(rune('a'+c.below(9))), 1+c.below(4))
		taken := slices.ContainsFunc(list, func(other api.Mod) bool { return other.Path == m.Path })
		if m.Path != leftOut && !taken {
			list = append(list, m)
		}
	}
	return list
}

// graph is what a test knows of a shelf of its own.
type graph map[api.Mod][]api.Mod

// publishSome publishes modules by chance, on the shelf and in the graph.
func (c *chance) publishSome(t *testing.T, s *cairnway.Shelf, g graph, times int) {
	t.Helper()
	for range times {
		m := mod(string(rune('a'+c.below(9))), 1+c.below(4))
		needs := c.some(3, m.Path)
		want := api.OK
		if _, ok := g[m]; ok {
			want = api.ErrThere
		} else {
			g[m] = needs
		}
		wantErrno(t, "Publish", s.Publish(m, needs), want)
	}
}

func inOrder(a, b api.Mod) int {
	return cmp.Or(cmp.Compare(a.Path, b.Path), cmp.Compare(a.Version, b.Version))
}

// build is P7 told once more in the plainest way: it goes over all the graph until nothing more is reached.
func (g graph) build(roots []api.Mod) (built []api.Mod, missing []api.Mod) {
	reached := slices.Clone(roots)
	for before := -1; before < len(reached); {
		before = len(reached)
		for _, m := range reached {
			for _, need := range g[m] {
				if !slices.Contains(reached, need) {
					reached = append(reached, need)
				}
			}
		}
	}
	for _, m := range reached {
		if _, ok := g[m]; !ok {
			missing = append(missing, m)
		}
	}
	slices.SortFunc(missing, inOrder)
	return greatest(reached), missing
}

// greatest gives of each path the module with the greatest version, in order.
func greatest(list []api.Mod) []api.Mod {
	versions := make(map[string]int)
	for _, m := range list {
		versions[m.Path] = max(versions[m.Path], m.Version)
	}
	var modules []api.Mod
	for path, version := range versions {
		modules = append(modules, mod(path, version))
	}
	slices.SortFunc(modules, inOrder)
	return modules
}

func TestP7AgainstAPlainBuild(t *testing.T) {
	c := chance(7)
	fine, failed := 0, 0
	for range 300 {
		s, g := cairnway.New(), graph{}
		c.publishSome(t, s, g, 20+c.below(60))
		for range 10 {
			roots := c.some(api.MaxRoots, "")
			built, missing := g.build(roots)
			if len(missing) > 0 {
				failed++
				wantMissing(t, s, show(roots), show(missing[:1]))
				continue
			}
			fine++
			wantBuild(t, s, show(roots), show(built))
		}
	}
	if fine < 100 || failed < 100 {
		t.Errorf("the test is lopsided: %d builds, %d without one", fine, failed)
	}
}

func TestP12WhatIsPublishedOrRetractedChangesNoBuild(t *testing.T) {
	c := chance(12)
	held := 0
	for range 200 {
		s, g := cairnway.New(), graph{}
		c.publishSome(t, s, g, 20+c.below(30))
		roots := c.some(3, "")
		built, e, _ := s.Build(roots)
		if e != api.OK {
			continue
		}
		held++
		for range 10 {
			c.publishSome(t, s, g, 2)
			s.Retract(mod(string(rune('a'+c.below(9))), 1+c.below(4)))
			wantBuild(t, s, show(roots), show(built))
		}
		for _, m := range built {
			s.Retract(m)
			s.Publish(mod(m.Path, api.MaxVersion), nil)
		}
		wantBuild(t, s, show(roots), show(built))
	}
	if held < 50 {
		t.Errorf("the test is lopsided: %d builds", held)
	}
}

func TestP12TwoListsOfRootsTogether(t *testing.T) {
	c := chance(21)
	held := 0
	for round := range 300 {
		s, g := cairnway.New(), graph{}
		c.publishSome(t, s, g, 80)
		roots := c.some(api.MaxRoots, "")
		cut := c.below(len(roots) + 1)
		one, e, _ := s.Build(roots[:cut])
		other, f, _ := s.Build(roots[cut:])
		together, both, _ := s.Build(roots)
		name := strconv.Itoa(round) + ": Build(" + show(roots) + ")"
		wantErrno(t, name, both, max(e, f))
		if both != api.OK {
			continue
		}
		held++
		if want := greatest(append(one, other...)); !slices.Equal(together, want) {
			t.Errorf("%s = %s, want %s, as of the two cut at %d", name, show(together), show(want), cut)
		}
	}
	if held < 50 {
		t.Errorf("the test is lopsided: %d builds", held)
	}
}
