package tests

import (
	"math"
	"slices"
	"strconv"
	"strings"
	"testing"

	"loop.example/g00416/impl"
)

// withPair: what is kept once that text is put by that id.
func withPair(pairs []pair, id string, text string) []pair {
	kept := append(withoutPair(pairs, id), pair{id, text})
	slices.SortFunc(kept, func(p pair, o pair) int { return strings.Compare(p.id, o.id) })
	return kept
}

func withoutPair(pairs []pair, id string) []pair {
	var kept []pair
	for _, p := range pairs {
		if p.id != id {
			kept = append(kept, p)
		}
	}
	return kept
}

// putByHand: what a store tells when these are to be kept, by the words of chapters 4 and 10.
func putByHand(s aStore, pairs []pair, steps int64) impl.StoreOut {
	text := pairsText(pairs...)
	if len(pairs) > impl.MaxKept || len(text) > roomOf(len(s.d.Sectors)) || s.gen >= impl.MaxTime {
		return storeFault(impl.ErrFull)
	}
	list := stepsOf(s.d, s.gen+1, 1-s.side, text)
	done := list[:min(max(steps, 0), int64(len(list)-1))+1]
	for _, d := range done {
		if len(d.Pending) > mostPending {
			return storeFault(impl.ErrFull)
		}
	}
	return impl.StoreOut{Disk: done[len(done)-1]}
}

// stepsTried: each number of steps up to all of them, and some that are below 0 or above.
func stepsTried(pairs []pair) []int64 {
	steps := []int64{math.MinInt64, -400, -1, allSteps, 1 << 32, math.MaxInt64}
	for i := range (len(pairsText(pairs...))+impl.SectorSize-1)/impl.SectorSize + 5 {
		steps = append(steps, int64(i))
	}
	return steps
}

func checkStorePut(t *testing.T, name string, s aStore, id string, text string) {
	t.Helper()
	pairs := withPair(s.pairs, id, text)
	for _, steps := range stepsTried(pairs) {
		what := "StorePut of " + id + ", " + strconv.FormatInt(steps, 10) + " steps: " + name
		check(t, what, impl.StorePut(s.d, id, text, steps), putByHand(s, pairs, steps))
	}
	if out := impl.StorePut(s.d, id, text, allSteps); out.Code == impl.OK {
		checkKeeps(t, "behind StorePut of "+id+": "+name, out.Disk, pairs)
	}
}

func checkStoreDrop(t *testing.T, name string, s aStore, id string) {
	t.Helper()
	pairs := withoutPair(s.pairs, id)
	for _, steps := range stepsTried(pairs) {
		want := putByHand(s, pairs, steps)
		if len(pairs) == len(s.pairs) {
			want = storeFault(impl.ErrNone)
		}
		what := "StoreDrop of " + id + ", " + strconv.FormatInt(steps, 10) + " steps: " + name
		check(t, what, impl.StoreDrop(s.d, id, steps), want)
	}
	if out := impl.StoreDrop(s.d, id, allSteps); out.Code == impl.OK {
		checkKeeps(t, "behind StoreDrop of "+id+": "+name, out.Disk, pairs)
	}
}

func TestStorePutOfEach(t *testing.T) {
	for name, s := range rightStores() {
		for _, id := range append(idsOf(s.pairs), rightIds()...) {
			for _, text := range []string{"", "n", "the new text", textOf(90, "n")} {
				checkStorePut(t, name, s, id, text)
			}
		}
		for _, p := range s.pairs {
			checkStorePut(t, name+", as it is", s, p.id, p.text)
		}
	}
}

func TestStoreDropOfEach(t *testing.T) {
	for name, s := range rightStores() {
		for _, id := range append(idsOf(s.pairs), rightIds()...) {
			checkStoreDrop(t, name, s, id)
		}
	}
}

func TestStoreWrongIds(t *testing.T) {
	for name, s := range rightStores() {
		for _, id := range wrongIds() {
			for _, steps := range []int64{-1, 0, 1, allSteps} {
				check(t, named("StorePut: "+name, id), impl.StorePut(s.d, id, "text", steps), storeFault(impl.ErrForm))
				check(t, named("StorePut of too much: "+name, id), impl.StorePut(s.d, id, textOf(impl.MaxBytes, "m"), steps), storeFault(impl.ErrForm))
				check(t, named("StoreDrop: "+name, id), impl.StoreDrop(s.d, id, steps), storeFault(impl.ErrForm))
			}
		}
	}
}

// TestStorePutMost: with MaxKept there one of them is put, and no other one.
func TestStorePutMost(t *testing.T) {
	most := storeOf(20, 3, 0, lettered(impl.MaxKept)...)
	for _, p := range most.pairs {
		checkStorePut(t, "most", most, p.id, "another text of "+p.id)
		checkStorePut(t, "most", most, p.id, "")
		for _, steps := range []int64{math.MinInt64, -1, 0, 1, 2, allSteps} {
			for _, text := range []string{"", "x", textOf(impl.MaxBytes, "m")} {
				check(t, "one more", impl.StorePut(most.d, p.id+"0", text, steps), storeFault(impl.ErrFull))
			}
		}
	}
	less := impl.StoreDrop(most.d, "d", allSteps).Disk
	put := impl.StorePut(less, "e", "instead", allSteps)
	checkKeeps(t, "one dropped, one put", put.Disk, withPair(withoutPair(most.pairs, "d"), "e", "instead"))
	check(t, "again one more", impl.StorePut(put.Disk, "d", "", allSteps), storeFault(impl.ErrFull))
}

// TestStorePutRoom: all have as many bytes as a side has room for, or one more.
func TestStorePutRoom(t *testing.T) {
	for _, sectors := range []int{3, 4, 5, 6, 9, impl.MaxSectors} {
		room := roomOf(sectors)
		for _, pairs := range [][]pair{nil, {{"a", ""}}, {{"a", "first"}, {"zz", "last"}}} {
			s := storeOf(sectors, 3, 1, pairs...)
			left := room - len(pairsText(withPair(pairs, "m", "")...))
			for size := max(left-3, 0); size <= left+2; size++ {
				text := textOf(size, "r")
				// From 64 bytes on the length has a byte more.
				fits := len(pairsText(withPair(pairs, "m", text)...)) <= room
				same(t, named("fits", sectors, size), impl.StorePut(s.d, "m", text, allSteps).Code == impl.OK, fits)
				checkStorePut(t, named("room", sectors, size), s, "m", text)
			}
		}
	}
}

// TestStorePutLongTexts: a text that a call takes and all that have MaxBytes bytes, or one more, have no room on any disk.
func TestStorePutLongTexts(t *testing.T) {
	for _, pairs := range [][]pair{nil, lettered(3)} {
		s := storeOf(impl.MaxSectors, 3, 1, pairs...)
		ahead := len(pairsText(withPair(pairs, "m", textOf(5000, "x"))...)) - 5000
		for _, size := range []int{roomOf(impl.MaxSectors), 4000, impl.MaxBytes - ahead - 1, impl.MaxBytes - ahead, impl.MaxBytes - ahead + 1, impl.MaxBytes - 1, impl.MaxBytes} {
			for _, steps := range []int64{-1, 0, 1, allSteps} {
				check(t, named("StorePut", size), impl.StorePut(s.d, "m", textOf(size, "l"), steps), storeFault(impl.ErrFull))
			}
		}
		for _, steps := range []int64{-1, 0, 1, allSteps} {
			check(t, "StorePut of one more", impl.StorePut(s.d, "m", textOf(impl.MaxBytes+1, "l"), steps), storeFault(impl.ErrSize))
		}
	}
}

// TestStoreLastNumber: where AreaPut has no number more, nothing is put or dropped, but all is told.
func TestStoreLastNumber(t *testing.T) {
	s := storeOf(5, impl.MaxTime-1, 0, lettered(2)...)
	put := impl.StorePut(s.d, "c", "last", allSteps)
	checkKeeps(t, "the last number", put.Disk, withPair(s.pairs, "c", "last"))
	for _, steps := range []int64{-1, 0, 1, allSteps} {
		check(t, "StorePut", impl.StorePut(put.Disk, "c", "", steps), storeFault(impl.ErrFull))
		check(t, "StoreDrop", impl.StoreDrop(put.Disk, "c", steps), storeFault(impl.ErrFull))
		check(t, "StoreDrop of none", impl.StoreDrop(put.Disk, "a", steps), storeFault(impl.ErrNone))
		check(t, "StoreDrop of no name", impl.StoreDrop(put.Disk, "1", steps), storeFault(impl.ErrForm))
	}
}

// TestStoreCrowded: AreaPut's code where too much is pending on its way.
func TestStoreCrowded(t *testing.T) {
	long := []pair{{"a", textOf(150, "a")}, {"b", textOf(30, "b")}}
	for _, pending := range []int{mostPending - 4, mostPending - 3, mostPending - 2, mostPending - 1, mostPending} {
		s := storeOf(9, 3, 0, long...)
		s = s.on(crowded(s.d, 5, pending))
		checkStorePut(t, named("crowded", pending), s, "c", "more")
		checkStoreDrop(t, named("crowded", pending), s, "a")
		checkStoreDrop(t, named("crowded", pending), s, "b")
		checkStoreDrop(t, named("crowded", pending), s, "c")
	}
	one := storeOf(5, 3, 1, pair{"a", "one"})
	full := one.on(crowded(one.d, 1, mostPending))
	check(t, "no room for a write", impl.StoreDrop(full.d, "a", 1), storeFault(impl.ErrFull))
	check(t, "no step", impl.StoreDrop(full.d, "a", 0), impl.StoreOut{Disk: full.d})
}

// TestStoreDropToNone: one by one, until none is there, and then none can be dropped.
func TestStoreDropToNone(t *testing.T) {
	for name, s := range rightStores() {
		if s.gen >= impl.MaxTime-1 || len(s.d.Pending) > 100 {
			continue
		}
		d, pairs := s.d, s.pairs
		for len(pairs) > 0 {
			id := pairs[len(pairs)/2].id
			d, pairs = impl.StoreDrop(d, id, allSteps).Disk, withoutPair(pairs, id)
			checkKeeps(t, "dropped: "+name, d, pairs)
			check(t, "dropped twice: "+name, impl.StoreDrop(d, id, allSteps), storeFault(impl.ErrNone))
		}
		same(t, "nothing left: "+name, impl.AreaRead(d).Text, "\x00")
	}
}

func TestStoreFaultOrder(t *testing.T) {
	longer, more := textOf(impl.MaxBytes+1, "o"), textOf(impl.MaxBytes, "o")
	most := storeOf(10, impl.MaxTime, 0, lettered(impl.MaxKept)...).d
	few := storeOf(5, impl.MaxTime, 1, lettered(2)...).d
	none := impl.DiskNew(5)
	for _, c := range []struct {
		what string
		d    impl.Disk
		id   string
		text string
		put  int64
		drop int64
	}{
		{"size, no store, no name", none, "A", longer, impl.ErrSize, impl.ErrForm},
		{"size, no name", most, "A", longer, impl.ErrSize, impl.ErrForm},
		{"size, full", most, "a", longer, impl.ErrSize, impl.ErrNone},
		{"no store, no name", none, "A", more, impl.ErrForm, impl.ErrForm},
		{"no store, a name", none, "a", more, impl.ErrForm, impl.ErrForm},
		{"no name, full, too much", most, "A", more, impl.ErrForm, impl.ErrForm},
		{"no name, the last number", few, "", "x", impl.ErrForm, impl.ErrForm},
		{"full, too much", most, "a", more, impl.ErrFull, impl.ErrNone},
		{"too much, the last number", few, "b", more, impl.ErrFull, impl.ErrFull},
		{"the last number", few, "b", "x", impl.ErrFull, impl.ErrFull},
		{"not there, the last number", few, "a", "x", impl.ErrFull, impl.ErrNone},
	} {
		for _, steps := range []int64{math.MinInt64, -1, 0, 1, allSteps} {
			check(t, "StorePut: "+c.what, impl.StorePut(c.d, c.id, c.text, steps), storeFault(c.put))
			check(t, "StoreDrop: "+c.what, impl.StoreDrop(c.d, c.id, steps), storeFault(c.drop))
		}
	}
}
