package store_test

import (
	"bytes"
	"cmp"
	"math/rand"
	"reflect"
	"slices"
	"testing"

	"perigee/api"
	"perigee/store"
)

func wantFault(t *testing.T, name string, got, want api.Fault) {
	t.Helper()
	if got != want {
		t.Errorf("%s: fault %d, want %d", name, got, want)
	}
}

func wantSame(t *testing.T, name string, got, want any) {
	t.Helper()
	if !reflect.DeepEqual(got, want) {
		t.Errorf("%s: got %v, want %v", name, got, want)
	}
}

// wantList accepts nil and empty lists alike.
func wantList[E comparable](t *testing.T, name string, got, want []E) {
	t.Helper()
	if !slices.Equal(got, want) {
		t.Errorf("%s: got %v, want %v", name, got, want)
	}
}

func wantFlash(t *testing.T, name string, got, want api.Flash) {
	t.Helper()
	wantList(t, name+", sizes", []int{got.Blocks, got.PerBlock, got.PageSize}, []int{want.Blocks, want.PerBlock, want.PageSize})
	wantList(t, name+", bytes", got.Data, want.Data)
	wantList(t, name+", wear", got.Wear, want.Wear)
	wantList(t, name+", bad", got.Bad, want.Bad)
}

// wantPage accepts nil and empty Bytes alike.
func wantPage(t *testing.T, name string, got, want api.PageInfo) {
	t.Helper()
	wantList(t, name+", bytes", got.Bytes, want.Bytes)
	got.Bytes, want.Bytes = nil, nil
	wantSame(t, name, got, want)
}

// All that follows says by the document's words, step by step, what the program is to do.

func sumOf(b []byte) int {
	s := 65535
	for _, x := range b {
		s ^= int(x) * 256
		for range 8 {
			high := s >= 32768
			s = s * 2 % 65536
			if high {
				s ^= 4129
			}
		}
	}
	return s
}

// sealed returns the bytes of a page, filled up, with the sum and the mark behind.
func sealed(size int, b ...byte) []byte {
	b = slices.Clone(b)
	for len(b) < size-3 {
		b = append(b, 255)
	}
	s := sumOf(b)
	return append(b, byte(s/256), byte(s%256), 165)
}

func pageOf(size int, x api.PageInfo) []byte {
	b := []byte{byte(x.Gen / 16777216), byte(x.Gen / 65536 % 256), byte(x.Gen / 256 % 256), byte(x.Gen % 256), 1, byte(len(x.Name)), byte(x.Index / 256), byte(x.Index % 256), byte(len(x.Bytes) / 256), byte(len(x.Bytes) % 256), 0, 0}
	if x.Gone {
		b[4] = 2
	}
	if x.Last {
		b[10] = 1
	}
	b = append(b, x.Name...)
	b = append(b, x.Bytes...)
	return sealed(size, b...)
}

func freePage(size int) []byte { return bytes.Repeat([]byte{255}, size) }

// stateOf is the state of a page, and what it says.
func stateOf(b []byte) (int, api.PageInfo) {
	n := len(b)
	switch {
	case bytes.Equal(b, freePage(n)):
		return api.PageFree, api.PageInfo{}
	case b[n-1] != 165:
		return api.PageTorn, api.PageInfo{}
	}
	name, many := int(b[5]), int(b[8])*256+int(b[9])
	if name < 1 || name > 32 || many > n-15-name || !bytes.Equal(b, sealed(n, b[:12+name+many]...)) {
		return api.PageDamaged, api.PageInfo{}
	}
	x := api.PageInfo{
		Gen:   int(b[0])*16777216 + int(b[1])*65536 + int(b[2])*256 + int(b[3]),
		Gone:  b[4] == 2,
		Name:  string(b[12 : 12+name]),
		Index: int(b[6])*256 + int(b[7]),
		Last:  b[10] == 1,
		Bytes: b[12+name : 12+name+many],
	}
	for i := range name {
		if x.Name[i] < 33 || x.Name[i] > 126 {
			return api.PageDamaged, api.PageInfo{}
		}
	}
	right := x.Gen >= 1 && x.Gen <= 4000000000 && (b[4] == 1 || b[4] == 2) && b[10] <= 1 && b[11] == 0
	if !right || x.Gone && (many > 0 || x.Index > 0 || !x.Last) {
		return api.PageDamaged, api.PageInfo{}
	}
	return api.PageWhole, x
}

func isGood(f api.Flash, number int) bool { return !slices.Contains(f.Bad, number/f.PerBlock) }

func bytesOf(f api.Flash, number int) []byte {
	return f.Data[number*f.PageSize : number*f.PageSize+f.PageSize]
}

func statesOf(f api.Flash) []int {
	l := make([]int, f.Blocks*f.PerBlock)
	for i := range l {
		if isGood(f, i) {
			l[i], _ = stateOf(bytesOf(f, i))
		}
	}
	return l
}

func freeOf(f api.Flash) []int {
	var l []int
	for i, state := range statesOf(f) {
		if state == api.PageFree {
			l = append(l, i)
		}
	}
	slices.SortFunc(l, func(a, b int) int {
		return cmp.Or(f.Wear[a/f.PerBlock]-f.Wear[b/f.PerBlock], a-b)
	})
	return l
}

// told is a whole page that counts.
type told struct {
	number int
	api.PageInfo
}

// toldOf are the pages of a name that count.
func toldOf(f api.Flash, name string) []told {
	var l []told
	for i, state := range statesOf(f) {
		if state != api.PageWhole {
			continue
		}
		_, x := stateOf(bytesOf(f, i))
		twice := slices.ContainsFunc(l, func(y told) bool { return y.Gen == x.Gen })
		if x.Name == name && !twice {
			l = append(l, told{i, x})
		}
	}
	return l
}

// pagesOf are the pages of a version, in the order of their Indices.
func pagesOf(f api.Flash, name string, gen int) []told {
	var l []told
	for _, x := range toldOf(f, name) {
		if x.Gen-x.Index == gen {
			l = append(l, x)
		}
	}
	slices.SortFunc(l, func(a, b told) int { return a.Index - b.Index })
	return l
}

// wholeOf says how many pages a version has as a whole one, 0 if it is none.
func wholeOf(l []told) int {
	n := 0
	for n < len(l) && l[n].Index == n && !l[n].Last {
		n++
	}
	if n == len(l) || l[n].Index != n {
		return 0
	}
	for _, x := range l[n+1:] {
		if x.Last {
			return 0
		}
	}
	return n + 1
}

func versionsOf(f api.Flash, name string) []api.Version {
	var gens []int
	for _, x := range toldOf(f, name) {
		gens = append(gens, x.Gen-x.Index)
	}
	slices.Sort(gens)
	var l []api.Version
	for _, gen := range slices.Compact(gens) {
		pages := pagesOf(f, name, gen)
		l = append(l, api.Version{Gen: gen, Pages: len(pages), Whole: wholeOf(pages) > 0, Gone: pages[0].Index == 0 && pages[0].Gone})
	}
	slices.Reverse(l)
	return l
}

// newestOf is the whole version with the greatest Gen.
func newestOf(f api.Flash, name string) (api.Version, bool) {
	for _, v := range versionsOf(f, name) {
		if v.Whole {
			return v, true
		}
	}
	return api.Version{}, false
}

func fileOf(f api.Flash, name string) ([]byte, bool) {
	v, ok := newestOf(f, name)
	if !ok || v.Gone {
		return nil, false
	}
	var b []byte
	pages := pagesOf(f, name, v.Gen)
	for _, x := range pages[:wholeOf(pages)] {
		b = append(b, x.Bytes...)
	}
	return b, true
}

// heldNames are all names that a whole page says, in order.
func heldNames(f api.Flash) []string {
	var l []string
	for i, state := range statesOf(f) {
		if state == api.PageWhole {
			_, x := stateOf(bytesOf(f, i))
			l = append(l, x.Name)
		}
	}
	slices.Sort(l)
	return slices.Compact(l)
}

// filesOf are all files of a flash.
func filesOf(f api.Flash) map[string]string {
	files := map[string]string{}
	for _, name := range heldNames(f) {
		if b, ok := fileOf(f, name); ok {
			files[name] = string(b)
		}
	}
	return files
}

func liveOf(f api.Flash) []int {
	var l []int
	for _, name := range heldNames(f) {
		v, ok := newestOf(f, name)
		if !ok || v.Gone && len(versionsOf(f, name)) == 1 {
			continue
		}
		for _, x := range pagesOf(f, name, v.Gen) {
			l = append(l, x.number)
		}
	}
	slices.Sort(l)
	return l
}

func nextOf(f api.Flash) int {
	most := 0
	for i, state := range statesOf(f) {
		b := bytesOf(f, i)[:4]
		if state != 0 && state != api.PageFree && !bytes.Equal(b, freePage(4)) {
			most = max(most, int(b[0])*16777216+int(b[1])*65536+int(b[2])*256+int(b[3]))
		}
	}
	return most + 1
}

func copyOf(f api.Flash) api.Flash {
	f.Data, f.Wear, f.Bad = slices.Clone(f.Data), slices.Clone(f.Wear), slices.Clone(f.Bad)
	return f
}

// burnt writes pages byte by byte; the power that is left is below 0 if it is not at its end.
func burnt(f api.Flash, places []int, pages [][]byte, power int) (api.Flash, bool, int) {
	f = copyOf(f)
	for i, b := range pages {
		for j, x := range b {
			if power == 0 {
				return f, false, 0
			}
			power--
			f.Data[places[i]*f.PageSize+j] = x
		}
	}
	return f, true, power
}

func writtenOf(f api.Flash, name, b string, power int) (api.Flash, bool, api.Fault) {
	room, gen, free := f.PageSize-15-len(name), nextOf(f), freeOf(f)
	var pages [][]byte
	for last := false; !last; {
		n := min(room, len(b))
		last = n == len(b)
		x := api.PageInfo{Gen: gen + len(pages), Name: name, Index: len(pages), Last: last, Bytes: []byte(b[:n])}
		pages = append(pages, pageOf(f.PageSize, x))
		b = b[n:]
	}
	if len(pages) > len(free) || gen+len(pages)-1 > 4000000000 {
		return api.Flash{}, false, api.ErrFull
	}
	out, done, _ := burnt(f, free, pages, power)
	return out, done, api.OK
}

func deletedOf(f api.Flash, name string, power int) (api.Flash, bool, api.Fault) {
	if _, ok := fileOf(f, name); !ok {
		return api.Flash{}, false, api.ErrNone
	}
	gen, free := nextOf(f), freeOf(f)
	if len(free) == 0 || gen > 4000000000 {
		return api.Flash{}, false, api.ErrFull
	}
	x := api.PageInfo{Gen: gen, Gone: true, Name: name, Last: true}
	out, done, _ := burnt(f, free, [][]byte{pageOf(f.PageSize, x)}, power)
	return out, done, api.OK
}

// inBlock are the numbers that are pages of a block, or of the others.
func inBlock(f api.Flash, l []int, block int, is bool) []int {
	var in []int
	for _, i := range l {
		if i/f.PerBlock == block == is {
			in = append(in, i)
		}
	}
	return in
}

func victimOf(f api.Flash) (int, bool) {
	states, live, free := statesOf(f), liveOf(f), freeOf(f)
	var l []int
	for block := range f.Blocks {
		used := 0
		for i, state := range states {
			if i/f.PerBlock == block && state != 0 && state != api.PageFree {
				used++
			}
		}
		mine := len(inBlock(f, live, block, true))
		if used > mine && mine <= len(inBlock(f, free, block, false)) && f.Wear[block] < api.MaxWear {
			l = append(l, block)
		}
	}
	if len(l) == 0 {
		return 0, false
	}
	slices.SortFunc(l, func(a, b int) int {
		fewer := len(inBlock(f, live, a, true)) - len(inBlock(f, live, b, true))
		return cmp.Or(fewer, f.Wear[a]-f.Wear[b], a-b)
	})
	return l[0], true
}

func cleanedOf(f api.Flash, power int) (api.Flash, bool, api.Fault) {
	block, ok := victimOf(f)
	if !ok {
		return api.Flash{}, false, api.ErrNone
	}
	var pages [][]byte
	for _, i := range inBlock(f, liveOf(f), block, true) {
		pages = append(pages, bytesOf(f, i))
	}
	out, done, power := burnt(f, inBlock(f, freeOf(f), block, false), pages, power)
	if !done || power == 0 {
		return out, false, api.OK
	}
	for i := range f.PerBlock {
		copy(bytesOf(out, block*f.PerBlock+i), freePage(f.PageSize))
	}
	out.Wear[block]++
	return out, true, api.OK
}

// Flashes to try all this with.

// flashOf is a flash with pages from the number 0 on; the others are free.
func flashOf(blocks, perBlock, size int, pages ...[]byte) api.Flash {
	f := api.Flash{Blocks: blocks, PerBlock: perBlock, PageSize: size, Wear: make([]int, blocks)}
	for i := range blocks * perBlock {
		if i < len(pages) {
			f.Data = append(f.Data, pages[i]...)
		} else {
			f.Data = append(f.Data, freePage(size)...)
		}
	}
	return f
}

// piece is a page of 64 bytes.
func piece(gen int, name string, index int, last bool, b string) []byte {
	return pageOf(64, api.PageInfo{Gen: gen, Name: name, Index: index, Last: last, Bytes: []byte(b)})
}

func gonePiece(gen int, name string) []byte {
	return pageOf(64, api.PageInfo{Gen: gen, Gone: true, Name: name, Last: true})
}

// torn is the beginning of a page, as it is behind a loss of power.
func torn(b []byte, many int) []byte {
	return append(slices.Clone(b[:many]), freePage(len(b)-many)...)
}

// damaged is a page with a flipped bit.
func damaged(b []byte, bit int) []byte {
	b = slices.Clone(b)
	b[bit/8] ^= 128 >> (bit % 8)
	return b
}

// randomPage is any page, often one that goes with others.
func randomPage(r *rand.Rand) []byte {
	name := []string{"a", "b", "ab"}[r.Intn(3)]
	x := api.PageInfo{Gen: 1 + r.Intn(8), Name: name, Index: r.Intn(3), Last: r.Intn(2) == 0, Bytes: randomBytes(r, r.Intn(4))}
	if r.Intn(6) == 0 {
		x = api.PageInfo{Gen: 1 + r.Intn(8), Gone: true, Name: name, Last: true}
	}
	b := pageOf(64, x)
	switch r.Intn(12) {
	case 0:
		return torn(b, r.Intn(64))
	case 1:
		return damaged(b, r.Intn(512))
	case 2, 3, 4:
		return freePage(64)
	}
	return b
}

func randomBytes(r *rand.Rand, many int) []byte {
	b := make([]byte, many)
	r.Read(b)
	return b
}

// randomFlash has any pages, and versions that are whole among them; some blocks are bad.
func randomFlash(r *rand.Rand) api.Flash {
	var pages [][]byte
	blocks, perBlock := 1+r.Intn(4), 1+r.Intn(4)
	for range blocks * perBlock {
		pages = append(pages, randomPage(r))
	}
	for range r.Intn(3) {
		gen, name, many := 1+r.Intn(8), []string{"a", "b"}[r.Intn(2)], 1+r.Intn(3)
		for i := range many {
			pages[r.Intn(len(pages))] = piece(gen+i, name, i, i == many-1, string(randomBytes(r, r.Intn(4))))
		}
	}
	f := flashOf(blocks, perBlock, 64, pages...)
	for i := range f.Wear {
		f.Wear[i] = r.Intn(3)
		switch r.Intn(10) {
		case 0:
			f.Bad = append(f.Bad, i)
		case 1:
			f.Wear[i] = api.MaxWear - r.Intn(2)
		}
	}
	return f
}

func randomPower(r *rand.Rand, most int) int { return r.Intn(most+most/4+2) - 1 - most/8 }

// used calls the program's own functions at random, often without enough power, and gives each flash to look, with the name and the bytes that were to be written ("" for none).
func used(t *testing.T, r *rand.Rand, f api.Flash, steps int, look func(before, after api.Flash, done bool, name, b string)) {
	t.Helper()
	for range steps {
		var after api.Flash
		var done bool
		var fault api.Fault
		name, b := []string{"a", "b", "cc"}[r.Intn(3)], string(randomBytes(r, r.Intn(3*f.PageSize)))
		power := randomPower(r, 4*f.PageSize)
		switch r.Intn(5) {
		case 0, 1:
			after, done, fault = store.Write(f, name, []byte(b), power)
			b = "=" + b
		case 2:
			after, done, fault = store.Delete(f, name, power)
			b = "-"
		default:
			after, done, fault = store.Clean(f, power)
			name, b = "", ""
		}
		if fault == api.OK {
			look(f, after, done, name, b)
			f = after
		}
	}
}

// badFlashes are flashes with their fault, and right ones at the bounds.
func badFlashes(give func(name string, f api.Flash, want api.Fault)) {
	good := flashOf(2, 2, 64)
	change := func(name string, want api.Fault, how func(f *api.Flash)) {
		f := copyOf(good)
		how(&f)
		give(name, f, want)
	}
	give("nothing", api.Flash{}, api.ErrRange)
	change("no blocks", api.ErrRange, func(f *api.Flash) { f.Blocks = 0 })
	change("blocks below", api.ErrRange, func(f *api.Flash) { f.Blocks = -2 })
	change("blocks above", api.ErrRange, func(f *api.Flash) { f.Blocks = api.MaxBlocks + 1 })
	change("no pages", api.ErrRange, func(f *api.Flash) { f.PerBlock = 0 })
	change("pages above", api.ErrRange, func(f *api.Flash) { f.PerBlock = api.MaxPerBlock + 1 })
	change("page below", api.ErrRange, func(f *api.Flash) { f.PageSize = api.MinPageSize - 1 })
	change("page above", api.ErrRange, func(f *api.Flash) { f.PageSize = api.MaxPageSize + 1 })
	change("range before too many bytes", api.ErrRange, func(f *api.Flash) { f.Blocks, f.PerBlock, f.PageSize = 64, 64, 1025 })
	change("too many bytes before form", api.ErrLarge, func(f *api.Flash) { f.Blocks, f.PerBlock, f.PageSize = 64, 64, 65 })
	change("a byte less", api.ErrForm, func(f *api.Flash) { f.Data = f.Data[1:] })
	change("a byte more", api.ErrForm, func(f *api.Flash) { f.Data = append(f.Data, 255) })
	change("less wear", api.ErrForm, func(f *api.Flash) { f.Wear = f.Wear[1:] })
	change("more wear", api.ErrForm, func(f *api.Flash) { f.Wear = append(f.Wear, 0) })
	change("form before range", api.ErrForm, func(f *api.Flash) { f.Wear = []int{-1} })
	change("wear below", api.ErrRange, func(f *api.Flash) { f.Wear[1] = -1 })
	change("wear above", api.ErrRange, func(f *api.Flash) { f.Wear[0] = api.MaxWear + 1 })
	change("wear before bad ones", api.ErrRange, func(f *api.Flash) { f.Wear[1], f.Bad = -1, []int{1, 1} })
	change("bad below", api.ErrRange, func(f *api.Flash) { f.Bad = []int{-1} })
	change("bad above", api.ErrRange, func(f *api.Flash) { f.Bad = []int{0, 2} })
	change("bad twice", api.ErrOrder, func(f *api.Flash) { f.Bad = []int{1, 1} })
	change("bad backwards", api.ErrOrder, func(f *api.Flash) { f.Bad = []int{1, 0} })
	change("range before order", api.ErrRange, func(f *api.Flash) { f.Bad = []int{1, -1} })
	change("order before range of the next one", api.ErrOrder, func(f *api.Flash) { f.Bad = []int{1, 0, 2} })
}
