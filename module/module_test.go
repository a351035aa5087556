package module

import (
	"slices"
	"strings"
	"testing"
	"unsafe"

	"cairnway/api"
)

func TestCompareOrdersByPathThenVersion(t *testing.T) {
	ordered := []Module{{"a", 1}, {"a", 2}, {"a", 10}, {"aa", 1}, {"ab", 1}, {"b", 1}, {"z", 99}}
	for i, m := range ordered {
		for j, other := range ordered {
			got := m.Compare(other)
			if (got < 0) != (i < j) || (got > 0) != (i > j) {
				t.Errorf("%v.Compare(%v) = %d", m, other, got)
			}
		}
	}
}

func TestCompareBearsVersionsOfAnySize(t *testing.T) {
	const far = int(^uint(0) >> 1)
	low, high := Module{"a", -far - 1}, Module{"a", far}
	if low.Compare(high) >= 0 || high.Compare(low) <= 0 {
		t.Error("the order of the least and the greatest version is wrong")
	}
}

func TestOrderedIsFresh(t *testing.T) {
	path := strings.Repeat("c", 3)
	list := []Module{{path, 2}, {"b", 9}, {"a", 1}}
	got := Ordered(list)
	if want := []Module{{"a", 1}, {"b", 9}, {"ccc", 2}}; !slices.Equal(got, want) {
		t.Errorf("Ordered = %v, want %v", got, want)
	}
	if want := []Module{{"ccc", 2}, {"b", 9}, {"a", 1}}; !slices.Equal(list, want) {
		t.Errorf("Ordered wrote into its list: %v", list)
	}
	if unsafe.StringData(got[2].Path) == unsafe.StringData(path) {
		t.Error("Ordered kept a path as it was handed in")
	}
}

func TestPlainListsAreFresh(t *testing.T) {
	plain := []api.Mod{{Path: "b", Version: 2}, {Path: "a", Version: 1}}
	modules := FromPlain(plain)
	back := ToPlain(modules)
	if !slices.Equal(back, plain) {
		t.Errorf("there and back: %v, want %v", back, plain)
	}
	plain[0].Version, back[1].Version = 7, 8
	if want := []Module{{"b", 2}, {"a", 1}}; !slices.Equal(modules, want) {
		t.Errorf("the lists share memory: %v", modules)
	}
}

func TestGreatestOfEachPath(t *testing.T) {
	for _, c := range []struct {
		name          string
		ordered, want []Module
	}{
		{"nothing", nil, nil},
		{"one", []Module{{"a", 3}}, []Module{{"a", 3}}},
		{"one path", []Module{{"a", 2}, {"a", 9}, {"a", 10}}, []Module{{"a", 10}}},
		{"several paths", []Module{{"a", 1}, {"a", 2}, {"aa", 1}, {"b", 1}, {"b", 7}}, []Module{{"a", 2}, {"aa", 1}, {"b", 7}}},
		{"one version, other paths", []Module{{"a", 1}, {"b", 1}, {"c", 1}}, []Module{{"a", 1}, {"b", 1}, {"c", 1}}},
	} {
		kept := slices.Clone(c.ordered)
		got := Greatest(c.ordered)
		if !slices.Equal(got, c.want) {
			t.Errorf("%s: Greatest = %v, want %v", c.name, got, c.want)
		}
		for i := range got {
			got[i] = Module{"q", 9}
		}
		if !slices.Equal(c.ordered, kept) {
			t.Errorf("%s: Greatest is no fresh list: %v", c.name, c.ordered)
		}
	}
}

func TestWithInPlaceOrAsOneMore(t *testing.T) {
	for _, c := range []struct {
		name string
		list []Module
		m    Module
		want []Module
	}{
		{"nothing", nil, Module{"a", 1}, []Module{{"a", 1}}},
		{"greater", []Module{{"a", 9}, {"b", 9}, {"c", 9}}, Module{"b", 10}, []Module{{"a", 9}, {"b", 10}, {"c", 9}}},
		{"lesser", []Module{{"a", 9}, {"b", 9}, {"c", 9}}, Module{"c", 1}, []Module{{"a", 9}, {"b", 9}, {"c", 1}}},
		{"the same", []Module{{"a", 9}, {"b", 9}}, Module{"a", 9}, []Module{{"a", 9}, {"b", 9}}},
		{"ahead of all", []Module{{"b", 1}, {"c", 1}}, Module{"a", 2}, []Module{{"a", 2}, {"b", 1}, {"c", 1}}},
		{"between", []Module{{"a", 1}, {"b", 1}}, Module{"aa", 2}, []Module{{"a", 1}, {"aa", 2}, {"b", 1}}},
		{"behind all", []Module{{"a", 1}, {"b", 1}}, Module{"c", 2}, []Module{{"a", 1}, {"b", 1}, {"c", 2}}},
	} {
		// The spare room of the list is the caller's too.
		spare := append(slices.Clone(c.list), Module{"s", 7})
		kept := slices.Clone(spare)
		got := With(spare[:len(c.list)], c.m)
		if !slices.Equal(got, c.want) {
			t.Errorf("%s: With = %v, want %v", c.name, got, c.want)
		}
		for i := range got {
			got[i] = Module{"q", 9}
		}
		if !slices.Equal(spare, kept) {
			t.Errorf("%s: With is no fresh list: %v", c.name, spare)
		}
	}
}

func TestCheck(t *testing.T) {
	for _, c := range []struct {
		name string
		list []Module
		want api.Errno
	}{
		{"nothing", nil, api.OK},
		{"least", []Module{{"a", 1}}, api.OK},
		{"greatest", []Module{{strings.Repeat("z", api.MaxPath), api.MaxVersion}}, api.OK},
		{"one a prefix of the other", []Module{{"a", 1}, {"aa", 1}}, api.OK},
		{"no letters", []Module{{"", 1}}, api.ErrPath},
		{"a letter too many", []Module{{strings.Repeat("z", api.MaxPath+1), 1}}, api.ErrPath},
		{"below a", []Module{{"a`", 1}}, api.ErrPath},
		{"above z", []Module{{"a{", 1}}, api.ErrPath},
		{"a great letter", []Module{{"aBc", 1}}, api.ErrPath},
		{"a zero byte", []Module{{"a\x00", 1}}, api.ErrPath},
		{"no UTF-8", []Module{{"a\xff", 1}}, api.ErrPath},
		{"a letter of another alphabet", []Module{{"ä", 1}}, api.ErrPath},
		{"a path behind a version", []Module{{"a", 0}, {"", 1}}, api.ErrPath},
		{"zero", []Module{{"a", 0}}, api.ErrVersion},
		{"below zero", []Module{{"a", -1}}, api.ErrVersion},
		{"one too great", []Module{{"a", api.MaxVersion + 1}}, api.ErrVersion},
		{"a version behind a path twice", []Module{{"a", 1}, {"a", 2}, {"b", 0}}, api.ErrVersion},
		{"twice", []Module{{"a", 1}, {"b", 1}, {"a", 2}}, api.ErrTwice},
		{"the same twice", []Module{{"a", 1}, {"a", 1}}, api.ErrTwice},
	} {
		if got := Check(c.list); got != c.want {
			t.Errorf("%s: Check(%v) = %d, want %d", c.name, c.list, got, c.want)
		}
	}
}
