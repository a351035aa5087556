// Package module: modules as the program works with them: their order, and which of them may be.
package module

import (
	"cmp"
	"slices"
	"strings"

	"cairnway/api"
)

// Module is api.Mod with an order of its own, which sorting functions take as a method expression.
type Module api.Mod

// Compare orders modules by their paths, then by their versions.
func (m Module) Compare(other Module) int {
	return cmp.Or(cmp.Compare(m.Path, other.Path), cmp.Compare(m.Version, other.Version))
}

// Own gives the same module with a path in memory of its own, so that nothing of a caller's is kept.
func (m Module) Own() Module {
	return Module{Path: strings.Clone(m.Path), Version: m.Version}
}

func (m Module) lacksPath() bool {
	// The length comes first: a path may be handed in of any size.
	return len(m.Path) < 1 || len(m.Path) > api.MaxPath || strings.ContainsFunc(m.Path, isNoLetter)
}

func (m Module) lacksVersion() bool {
	return m.Version < 1 || m.Version > api.MaxVersion
}

func isNoLetter(r rune) bool {
	return r < 'a' || r > 'z'
}

// FromPlain gives a fresh list of modules.
func FromPlain(list []api.Mod) []Module {
	modules := make([]Module, len(list))
	for i, m := range list {
		modules[i] = Module(m)
	}
	return modules
}

// ToPlain gives a fresh list, which its caller may write into.
func ToPlain(list []Module) []api.Mod {
	plain := make([]api.Mod, len(list))
	for i, m := range list {
		plain[i] = api.Mod(m)
	}
	return plain
}

// Ordered gives a fresh list of the modules, in order and each with memory of its own.
func Ordered(list []Module) []Module {
	ordered := make([]Module, len(list))
	for i, m := range list {
		ordered[i] = m.Own()
	}
	slices.SortFunc(ordered, Module.Compare)
	return ordered
}

// Greatest gives, of modules in order, a fresh list of the one with the greatest version of each path.
func Greatest(ordered []Module) []Module {
	var greatest []Module
	for i, m := range ordered {
		if i+1 == len(ordered) || ordered[i+1].Path != m.Path {
			greatest = append(greatest, m)
		}
	}
	return greatest
}

// With gives a fresh list of the modules, in order, with m in place of the one of its path, or as one more.
func With(list []Module, m Module) []Module {
	with := []Module{m}
	for _, other := range list {
		if other.Path != m.Path {
			with = append(with, other)
		}
	}
	slices.SortFunc(with, Module.Compare)
	return with
}

// Check tells what is wrong with modules that are named together.
// Each error is asked of all of them ahead of the next one, as the document names them.
func Check(list []Module) api.Errno {
	switch {
	case slices.ContainsFunc(list, Module.lacksPath):
		return api.ErrPath
	case slices.ContainsFunc(list, Module.lacksVersion):
		return api.ErrVersion
	case namesPathTwice(list):
		return api.ErrTwice
	}
	return api.OK
}

func namesPathTwice(list []Module) bool {
	paths := make(map[string]struct{}, len(list))
	for _, m := range list {
		paths[m.Path] = struct{}{}
	}
	return len(paths) < len(list)
}
