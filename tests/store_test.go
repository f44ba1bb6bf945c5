package tests

import (
	"math"
	"slices"
	"strings"
	"testing"

	"loop.example/g00416/impl"
)

// pair is an id, and the text that is kept by it.
type pair struct{ id, text string }

// aStore is a Disk that is a store, and what it keeps, rising.
type aStore struct {
	d     impl.Disk
	gen   int64
	side  int
	pairs []pair
}

// shortNum: a number from 0 on, of at most two bytes, as PutNum writes it.
func shortNum(n int) string {
	if n < 64 {
		return string([]byte{byte(2 * n)})
	}
	return string([]byte{byte(2*n%128 + 128), byte(2 * n / 128)})
}

func pairText(p pair) string {
	return shortNum(len(p.id)) + p.id + shortNum(len(p.text)) + p.text
}

func pairsText(pairs ...pair) string {
	text := shortNum(len(pairs))
	for _, p := range pairs {
		text += pairText(p)
	}
	return text
}

func storeOf(sectors int, gen int64, side int, pairs ...pair) aStore {
	return aStore{areaOf(sectors, gen, side, pairsText(pairs...)), gen, side, pairs}
}

// on: the same that is kept, on another Disk.
func (s aStore) on(d impl.Disk) aStore {
	return aStore{d, s.gen, s.side, s.pairs}
}

func idsOf(pairs []pair) []string {
	var ids []string
	for _, p := range pairs {
		ids = append(ids, p.id)
	}
	return ids
}

// lettered: so many that are kept, by b, d, f ..
func lettered(n int) []pair {
	var pairs []pair
	for i := range n {
		id := string(rune('b' + 2*i))
		pairs = append(pairs, pair{id, "of " + id})
	}
	return pairs
}

// filledUp has a text more behind, so that all have so many bytes.
func filledUp(bytes int, pairs ...pair) []pair {
	for size := range bytes {
		more := append(slices.Clone(pairs), pair{"zz", textOf(size, "f")})
		if len(pairsText(more...)) == bytes {
			return more
		}
	}
	panic("no text fills it up")
}

func rightStores() map[string]aStore {
	longest := "z" + strings.Repeat("9_a", 7)[:19]
	three := storeOf(6, 9, 0, lettered(3)...)
	large := storeOf(7, 4, 1, pair{"first", textOf(100, "x")}, pair{"second", textOf(63, "y")}, pair{"third", ""})
	return map[string]aStore{
		"none":                      storeOf(3, 1, 1),
		"none, number 0":            storeOf(3, 0, 0),
		"one":                       storeOf(3, 2, 0, pair{"a", "one"}),
		"empty texts":               storeOf(4, 2, 1, pair{"a", ""}, pair{"b", ""}, pair{"c", ""}),
		"ids that begin others":     storeOf(4, 3, 0, pair{"a", "1"}, pair{"a0", "2"}, pair{"a9", "3"}, pair{"a_", "4"}, pair{"aa", "5"}, pair{"b", "6"}, pair{"ba", "7"}),
		"the longest id":            storeOf(5, 3, 1, pair{longest[:19], "19"}, pair{longest, "20"}),
		"many":                      storeOf(7, 3, 0, lettered(impl.MaxKept-1)...),
		"most":                      storeOf(8, 3, 1, lettered(impl.MaxKept)...),
		"most, empty":               storeOf(5, 3, 0, pair{"a", ""}, pair{"b", ""}, pair{"c", ""}, pair{"d", ""}, pair{"e", ""}, pair{"f", ""}, pair{"g", ""}, pair{"h", ""}, pair{"i", ""}, pair{"j", ""}, pair{"k", ""}, pair{"l", ""}),
		"the smallest, full":        storeOf(3, 5, 0, filledUp(64, lettered(2)...)...),
		"full":                      storeOf(5, 5, 1, filledUp(128, lettered(3)...)...),
		"the largest, full":         storeOf(impl.MaxSectors, 5, 0, filledUp(roomOf(impl.MaxSectors), lettered(11)...)...),
		"a text of each byte":       storeOf(impl.MaxSectors, 5, 1, pair{"a", everyByte()}, pair{"b", "\x00"}, pair{"c", "\xff\xfe"}),
		"a text that is a store's":  storeOf(8, 5, 0, pair{"a", pairsText(lettered(4)...)}, pair{"b", pairsText()}),
		"texts of 63 and 64 bytes":  storeOf(8, 6, 1, pair{"a", textOf(63, "a")}, pair{"b", textOf(64, "b")}),
		"the last number but one":   storeOf(5, impl.MaxTime-1, 0, lettered(2)...),
		"the last number":           storeOf(5, impl.MaxTime, 1, lettered(2)...),
		"behind the last number":    storeOf(5, impl.MaxTime+1, 0, lettered(2)...),
		"bytes behind, on the disk": three.on(filled(6, 9, 0, pairsText(three.pairs...))),
		"a text pending":            large.on(atPending(large.d, 5, "y")),
		"a head pending":            large.on(atPending(large.d, 0, "no head")),
		"all pending":               large.on(atPending(atPending(atPending(large.d, 4, "x"), 0, headOf(3, 0, 1)), 6, "")),
		"195 pending":               large.on(crowded(large.d, 1, mostPending-5)),
		"200 pending":               large.on(crowded(large.d, 3, mostPending)),
		"no full sector elsewhere":  three.on(withSector(withPending(three.d, 3, ""), 4, "")),
	}
}

func everyByte() string {
	var raw []byte
	for b := range 256 {
		raw = append(raw, byte(b))
	}
	return string(raw)
}

// wrongIds and rightIds stand at the edges of a name.
func wrongIds() []string {
	return []string{"", strings.Repeat("a", 21), "A", "aB", "0", "0a", "9z", "_", "_a", "a-b", "a b", " a", "a ", "a\x00", "\x00", "`", "{", "a{", "é", "aé", "a\xff", strings.Repeat("a", impl.MaxBytes)}
}

func rightIds() []string {
	return []string{"a", "z", "a0", "a_", "az", "absent", "b0", "bb", "c", "y9", "zz", strings.Repeat("q", 20), "y_" + strings.Repeat("0", 18)}
}

// wrongTexts: what may stand on a Disk and is of no store.
func wrongTexts() map[string]string {
	a, b, c := pair{"a", "one"}, pair{"b", "two"}, pair{"c", ""}
	of := func(count string, pairs ...pair) string { return count + pairsText(pairs...)[1:] }
	most := lettered(impl.MaxKept)
	long := pair{"d", textOf(70, "l")}
	texts := map[string]string{
		"empty":                          "",
		"no number, cut off":             "\x80",
		"no number, one byte too many":   "\x80\x00",
		"one, one byte too many":         of("\x82\x00", a),
		"no number, of eleven bytes":     strings.Repeat("\x80", 10) + "\x00",
		"no number, a tenth byte":        strings.Repeat("\xff", 9) + "\x02",
		"a number below 0":               "\x01",
		"a number below 0, with one":     of("\x01", a),
		"the least number":               strings.Repeat("\xff", 9) + "\x01",
		"the greatest number":            "\xfe" + strings.Repeat("\xff", 8) + "\x01",
		"a number and nothing":           "\x02",
		"most, and nothing":              shortNum(impl.MaxKept),
		"one more, and nothing":          shortNum(impl.MaxKept + 1),
		"a great number":                 of(shortNum(8000), a),
		"none told, one there":           of(shortNum(0), a),
		"one told, two there":            of(shortNum(1), a, b),
		"two told, one there":            of(shortNum(2), a),
		"three told, two there":          of(shortNum(3), a, b),
		"one more than most":             pairsText(append(slices.Clone(most), pair{"z", ""})...),
		"most told, one more there":      of(shortNum(impl.MaxKept), append(slices.Clone(most), pair{"z", ""})...),
		"one more told, most there":      of(shortNum(impl.MaxKept+1), most...),
		"most told, one less there":      of(shortNum(impl.MaxKept), most[1:]...),
		"bytes behind none":              pairsText() + "\x00",
		"bytes behind one":               pairsText(a) + "\x00",
		"bytes behind two":               pairsText(a, b) + "x",
		"an id behind two":               pairsText(a, b) + shortNum(1) + "c",
		"two alike":                      pairsText(a, a),
		"two ids alike":                  pairsText(a, pair{"a", "other"}),
		"two alike, one ahead":           pairsText(a, b, b),
		"two alike, one behind":          pairsText(a, a, b),
		"two alike, one between":         pairsText(a, b, a),
		"all alike":                      pairsText(slices.Repeat([]pair{a}, impl.MaxKept)...),
		"falling":                        pairsText(b, a),
		"falling, at the end":            pairsText(a, c, b),
		"falling, at the beginning":      pairsText(b, a, c),
		"a longer one ahead of it":       pairsText(pair{"aa", ""}, pair{"a", ""}),
		"by length":                      pairsText(pair{"b", ""}, pair{"aa", ""}),
		"a letter ahead of a digit":      pairsText(pair{"aa", ""}, pair{"a0", ""}),
		"a letter ahead of _":            pairsText(pair{"aa", ""}, pair{"a_", ""}),
		"_ ahead of a digit":             pairsText(pair{"a_", ""}, pair{"a9", ""}),
		"an id's length, a byte more":    "\x02" + "\x82\x00" + "a" + shortNum(3) + "one",
		"a text's length, a byte more":   "\x02" + "\x02a" + "\x86\x00" + "one",
		"no text's length, a byte more":  "\x02" + "\x02a" + "\x80\x00",
		"an id's length below 0":         "\x02" + "\x01" + "a" + "\x00",
		"a text's length below 0":        "\x02" + "\x02a" + "\x01",
		"an id's length above all":       "\x02" + shortNum(8000) + "a" + "\x00",
		"a text's length above all":      "\x02" + "\x02a" + shortNum(8000) + "one",
		"a text's length above any":      "\x02" + "\x02a" + shortNum(8001) + "one",
		"a text's length, the greatest":  "\x02" + "\x02a" + "\xfe" + strings.Repeat("\xff", 8) + "\x01" + "one",
		"a text one byte short":          pairsText(a, pair{"b", "twos"})[:13],
		"ids and texts changed about":    pairsText(pair{"one", "a"}, pair{"a", "two"}),
		"the text of no store":           "hello",
		"a head":                         headOf(3, 0, 1),
		"a store's text, a byte ahead":   "\x00" + pairsText(a, b),
		"a store's text, twice":          pairsText(a, b) + pairsText(a, b),
		"a long text, a byte short":      pairsText(a, long)[:len(pairsText(a, long))-1],
		"a long text, one byte behind":   pairsText(a, long) + "x",
		"an elder store's text behind":   pairsText(a) + pairsText(a, b)[len(pairsText(a)):],
		"a long length, a byte too many": "\x02" + "\x02d" + "\x8c\x81\x00" + textOf(70, "l"),
	}
	for _, id := range wrongIds() {
		if len(id) > 100 {
			id = id[:100]
		}
		texts[named("alone, id", id)] = pairsText(pair{id, "text"})
		// Among others it stands where it would rise.
		rising := []pair{a, {"q", "r"}, {id, "text"}}
		slices.SortFunc(rising, func(p pair, o pair) int { return strings.Compare(p.id, o.id) })
		texts[named("among others, id", id)] = pairsText(rising...)
	}
	return texts
}

// wrongStores are Disks that are no store, whatever the reason.
func wrongStores() map[string]impl.Disk {
	whole := storeOf(5, 3, 0, pair{"a", textOf(100, "w")})
	stores := map[string]impl.Disk{
		"a new disk":                   impl.DiskNew(5),
		"the largest new disk":         impl.DiskNew(impl.MaxSectors),
		"formatted only":               impl.AreaFormat(impl.DiskNew(5)).Disk,
		"formatted over a store":       impl.AreaFormat(whole.d).Disk,
		"a sector short":               withSector(whole.d, 1, textOf(63, "w")),
		"the last sector short":        withSector(whole.d, 2, ""),
		"a sector pending, short":      withPending(whole.d, 2, "x"),
		"a sector pending, another id": withPending(whole.d, 1, "\x02\x02A"+whole.d.Sectors[1][3:]),
		"a text spoilt":                withSector(whole.d, 1, "\x04"+whole.d.Sectors[1][1:]),
		"one sector":                   withSector(diskOf(1, 0), 0, headOf(1, 0, 0)),
		"one sector, a byte told":      withSector(diskOf(1, 0), 0, headOf(1, 0, 1)),
		"two sectors":                  withSector(diskOf(2, 0), 0, headOf(1, 1, 0)),
		"two sectors, a byte there":    withSector(withSector(diskOf(2, 0), 0, headOf(1, 1, 1)), 1, "\x00"),
		"a head of the other side":     withSector(whole.d, 0, headOf(3, 1, 101)),
		"a head of a byte less":        withSector(whole.d, 0, headOf(3, 0, int64(len(pairsText(whole.pairs...)))-1)),
		"a head of a byte more":        withSector(withSector(whole.d, 2, whole.d.Sectors[2]+"x"), 0, headOf(3, 0, int64(len(pairsText(whole.pairs...)))+1)),
		"a pending behind the last":    withPending(whole.d, 5, ""),
		"a pending below 0":            withPending(whole.d, -1, ""),
		"a sector of 65 bytes":         withSector(whole.d, 4, strings.Repeat("x", impl.SectorSize+1)),
		"201 pending":                  crowded(whole.d, 4, mostPending+1),
	}
	for name, d := range wrongDisks() {
		stores[name] = d
	}
	for name, bad := range badSectors() {
		stores["head: "+name] = withSector(whole.d, 0, bad.text)
		stores["pending head: "+name] = withPending(whole.d, 0, bad.text)
	}
	for name, text := range wrongTexts() {
		stores["text: "+name] = areaOf(9, 3, 0, text)
		stores["text of side 1: "+name] = areaOf(10, 3, 1, text)
	}
	return stores
}

func storeFault(code int64) impl.StoreOut {
	return impl.StoreOut{Code: code}
}

func checkKeeps(t *testing.T, what string, d impl.Disk, pairs []pair) {
	t.Helper()
	same(t, "StoreRight: "+what, impl.StoreRight(d), true)
	check(t, "StoreNames: "+what, impl.StoreNames(d), idsOf(pairs))
	for _, p := range pairs {
		check(t, "StoreGet of "+p.id+": "+what, impl.StoreGet(d, p.id), impl.StoreOut{Disk: d, Text: p.text})
	}
	for _, id := range rightIds() {
		if !slices.Contains(idsOf(pairs), id) {
			check(t, "StoreGet of "+id+", not there: "+what, impl.StoreGet(d, id), storeFault(impl.ErrNone))
		}
	}
}

func TestStoreKeeps(t *testing.T) {
	for name, s := range rightStores() {
		checkKeeps(t, name, s.d, s.pairs)
		for _, id := range wrongIds() {
			check(t, named("StoreGet: "+name, id), impl.StoreGet(s.d, id), storeFault(impl.ErrForm))
		}
	}
}

// checkNoStore: of what is no store all tell ErrForm, or the zero answer, whatever else is wrong.
func checkNoStore(t *testing.T, name string, d impl.Disk) {
	t.Helper()
	same(t, "StoreRight: "+name, impl.StoreRight(d), false)
	check(t, "StoreNames: "+name, impl.StoreNames(d), []string{})
	for _, id := range []string{"a", "absent", "A", ""} {
		check(t, named("StoreGet: "+name, id), impl.StoreGet(d, id), storeFault(impl.ErrForm))
		for _, steps := range []int64{-1, 0, 1, allSteps} {
			check(t, named("StorePut: "+name, id), impl.StorePut(d, id, "text", steps), storeFault(impl.ErrForm))
			check(t, named("StorePut of too much: "+name, id), impl.StorePut(d, id, textOf(impl.MaxBytes, "m"), steps), storeFault(impl.ErrForm))
			check(t, named("StoreDrop: "+name, id), impl.StoreDrop(d, id, steps), storeFault(impl.ErrForm))
		}
	}
}

func TestStoreNoStore(t *testing.T) {
	for name, d := range wrongStores() {
		checkNoStore(t, name, d)
	}
	for name, s := range rightStores() {
		text := pairsText(s.pairs...)
		for size := range text {
			if impl.StoreRight(areaOf(impl.MaxSectors, 3, 0, text[:size])) {
				t.Errorf("%s, of %d bytes alone: right", name, size)
			}
		}
	}
}

func TestStoreNew(t *testing.T) {
	for sectors := int64(3); sectors <= impl.MaxSectors; sectors++ {
		want := laid(withSector(impl.DiskNew(sectors), 0, headOf(1, 1, 1)), 1, "\x00")
		checkDisk(t, "StoreNew", impl.StoreNew(sectors), want)
		checkKeeps(t, "StoreNew", impl.StoreNew(sectors), nil)
	}
	for _, sectors := range []int64{2, 1, 0, -1, -3, -5, -impl.MaxSectors, impl.MaxSectors + 1, impl.MaxSectors + 2, impl.MaxList, impl.MaxList + 1, 1<<32 + 5, math.MinInt64, math.MaxInt64} {
		if d := impl.StoreNew(sectors); !zeroDisk(d) {
			t.Errorf("StoreNew(%d) = %+v", sectors, d)
		}
	}
}

func TestStoreNamesRise(t *testing.T) {
	d := impl.StoreNew(9)
	check(t, "none", impl.StoreNames(d), []string{})
	for _, id := range []string{"m", "b", "z", "a_", "a", "m0", "zz", "aa", "a9", "c", "ma", "m_"} {
		d = impl.StorePut(d, id, "text of "+id, allSteps).Disk
	}
	check(t, "most", impl.StoreNames(d), []string{"a", "a9", "a_", "aa", "b", "c", "m", "m0", "m_", "ma", "z", "zz"})
	same(t, "right", impl.StoreRight(d), true)
	check(t, "one more", impl.StorePut(d, "n", "", allSteps), storeFault(impl.ErrFull))
}

// TestStoreSizes: an id that is longer than any text is refused ahead of all else.
func TestStoreSizes(t *testing.T) {
	longest, longer := strings.Repeat("a", impl.MaxBytes), strings.Repeat("a", impl.MaxBytes+1)
	disks := map[string]impl.Disk{"a store": storeOf(5, 3, 0, lettered(2)...).d, "full": rightStores()["most"].d, "no store": impl.DiskNew(5), "no disk": {}}
	for name, d := range disks {
		check(t, "StoreGet: "+name, impl.StoreGet(d, longer), storeFault(impl.ErrSize))
		check(t, "StoreGet, as long: "+name, impl.StoreGet(d, longest), storeFault(impl.ErrForm))
		for _, steps := range []int64{-1, 0, 1, allSteps} {
			check(t, "StoreDrop: "+name, impl.StoreDrop(d, longer, steps), storeFault(impl.ErrSize))
			check(t, "StoreDrop, as long: "+name, impl.StoreDrop(d, longest, steps), storeFault(impl.ErrForm))
			check(t, "StorePut: "+name, impl.StorePut(d, longer, "", steps), storeFault(impl.ErrSize))
			check(t, "StorePut, as long: "+name, impl.StorePut(d, longest, "", steps), storeFault(impl.ErrForm))
			check(t, "StorePut, both: "+name, impl.StorePut(d, longer, longer, steps), storeFault(impl.ErrSize))
			for _, id := range []string{"b", "absent", "A", ""} {
				check(t, named("StorePut, text: "+name, id), impl.StorePut(d, id, longer, steps), storeFault(impl.ErrSize))
			}
		}
	}
}
