package store

import (
	"cmp"
	"maps"
	"slices"

	"perigee/api"
)

// page is a whole page: its number, and what it says.
type page struct {
	number int
	info   api.PageInfo
}

func (p page) last() bool { return p.info.Last }

// version has the pages of a version of a file in the order of their Indices.
type version struct {
	gen   int
	pages []page
}

// length returns how many pages the file has that a version is, 0 if it is not whole.
func (v version) length() int {
	last := slices.IndexFunc(v.pages, page.last)
	// As no Index is there twice, none before that of the last page is missing just if this one is as great as its place.
	if last < 0 || v.pages[last].info.Index != last || slices.ContainsFunc(v.pages[last+1:], page.last) {
		return 0
	}
	return last + 1
}

func (v version) whole() bool { return v.length() > 0 }

// gone says whether the page 0 says so, which no other page can.
func (v version) gone() bool { return v.pages[0].info.Gone }

// versionsByName returns the versions of each name, the greatest Gen first.
func versionsByName(f api.Flash) map[string][]version {
	type key struct {
		name string
		gen  int
	}
	seen := map[key]bool{}
	versions := map[key][]page{}
	for number, b := range goodPages(f) {
		state, x := readPage(b)
		if state != api.PageWhole || seen[key{x.Name, x.Gen}] {
			continue
		}
		seen[key{x.Name, x.Gen}] = true
		k := key{x.Name, x.Gen - x.Index}
		versions[k] = append(versions[k], page{number, x})
	}
	byName := map[string][]version{}
	for k, pages := range versions {
		slices.SortFunc(pages, func(a, b page) int { return cmp.Compare(a.info.Index, b.info.Index) })
		byName[k.name] = append(byName[k.name], version{k.gen, pages})
	}
	for _, l := range byName {
		slices.SortFunc(l, func(a, b version) int { return cmp.Compare(b.gen, a.gen) })
	}
	return byName
}

// newest returns the first whole one of versions.
func newest(l []version) (version, bool) {
	i := slices.IndexFunc(l, version.whole)
	if i < 0 {
		return version{}, false
	}
	return l[i], true
}

// fileOf returns the one of the versions of a name that is its file.
func fileOf(l []version) (version, bool) {
	v, ok := newest(l)
	return v, ok && !v.gone()
}

func checkNamed(f api.Flash, name string) api.Fault {
	if fault := CheckFlash(f); fault != api.OK {
		return fault
	}
	if !isName(name) {
		return api.ErrName
	}
	return api.OK
}

// Versions returns the versions of a name, the greatest Gen first.
func Versions(f api.Flash, name string) ([]api.Version, api.Fault) {
	if fault := checkNamed(f, name); fault != api.OK {
		return nil, fault
	}
	var out []api.Version
	for _, v := range versionsByName(f)[name] {
		out = append(out, api.Version{Gen: v.gen, Pages: len(v.pages), Whole: v.whole(), Gone: v.gone()})
	}
	return out, api.OK
}

// Names returns the names of all files.
func Names(f api.Flash) ([]string, api.Fault) {
	if fault := CheckFlash(f); fault != api.OK {
		return nil, fault
	}
	var names []string
	for name, l := range versionsByName(f) {
		if _, ok := fileOf(l); ok {
			names = append(names, name)
		}
	}
	slices.Sort(names)
	return names, api.OK
}

// ReadFile returns the bytes of a file.
func ReadFile(f api.Flash, name string) ([]byte, api.Fault) {
	if fault := checkNamed(f, name); fault != api.OK {
		return nil, fault
	}
	v, ok := fileOf(versionsByName(f)[name])
	if !ok {
		return nil, api.ErrNone
	}
	var b []byte
	for _, p := range v.pages[:v.length()] {
		b = append(b, p.info.Bytes...)
	}
	return b, api.OK
}

// Live returns the numbers of the live pages.
func Live(f api.Flash) ([]int, api.Fault) {
	if fault := CheckFlash(f); fault != api.OK {
		return nil, fault
	}
	return slices.Sorted(maps.Keys(livePages(f))), api.OK
}

func livePages(f api.Flash) map[int]bool {
	live := map[int]bool{}
	for _, l := range versionsByName(f) {
		v, ok := newest(l)
		// That a file is gone must be kept just as long as there is another version that could be taken for it.
		if !ok || v.gone() && len(l) == 1 {
			continue
		}
		for _, p := range v.pages {
			live[p.number] = true
		}
	}
	return live
}

// Room returns how many bytes a file can have by the pages that are free now.
func Room(f api.Flash, name string) (int, api.Fault) {
	if fault := checkNamed(f, name); fault != api.OK {
		return 0, fault
	}
	return len(freePages(f)) * roomIn(f.PageSize, name), api.OK
}
