package reach

import (
	"slices"

	"cairnway/module"
)

// Way tells a shortest way from a root to a module that is reached; of several the first one, as lists are ordered.
func (r Reached) Way(to module.Module) []module.Module {
	before := r.lead()
	var way []module.Module
	// No module is the empty one: it stands ahead of the roots.
	for m := to; m != (module.Module{}); m = before[m] {
		way = append(way, m)
	}
	slices.Reverse(way)
	return way
}

// lead tells of each module that is reached which one stands before it on its way.
// Modules are met by the length of their ways, and those of one length by the order of their ways,
// as roots and needs are in order: so who meets a module first leads to it.
func (r Reached) lead() map[module.Module]module.Module {
	before := make(map[module.Module]module.Module)
	var met []module.Module
	meet := func(from module.Module, list []module.Module) {
		for _, m := range list {
			if _, ok := before[m]; !ok {
				before[m] = from
				met = append(met, m)
			}
		}
	}
	meet(module.Module{}, r.Roots)
	for i := 0; i < len(met); i++ {
		meet(met[i], r.needs[met[i]])
	}
	return before
}
