package tests

import (
	"fmt"
	"math"
	"math/rand"
	"slices"
	"strings"
	"testing"

	"loop.example/g00416/impl"
)

// submittedByHand is what Submit is asked for, by the words of the chapters.
func submittedByHand(s aStore, id string, text string, to int64, steps int64) impl.EngineOut {
	if len(text) > impl.MaxBytes || len(id) > impl.MaxBytes {
		return engineFault(impl.ErrSize, 0, "")
	}
	if !impl.NameRight(id) {
		return engineFault(impl.ErrForm, 0, "")
	}
	out := translatedByHand(text, to)
	if out.Code != impl.OK {
		return out
	}
	put := putByHand(s, withPair(s.pairs, id, out.Text), steps)
	if put.Code != impl.OK {
		return engineFault(put.Code, 0, "")
	}
	out.Disk = put.Disk
	return out
}

// checkFetched: the store has these, and a file of each id is told as it is kept.
func checkFetched(t *testing.T, what string, d impl.Disk, pairs []pair) {
	t.Helper()
	checkKeeps(t, what, d, pairs)
	for _, p := range pairs {
		check(t, "Fetch of "+p.id+": "+what, impl.Fetch(d, p.id), impl.EngineOut{Disk: d, Text: p.text})
	}
	for _, id := range rightIds() {
		if !slices.Contains(idsOf(pairs), id) {
			check(t, "Fetch of "+id+", not there: "+what, impl.Fetch(d, id), engineFault(impl.ErrNone, 0, ""))
		}
	}
}

// checkSubmit tries each number of steps, and looks at what is fetched behind all of them; the store stays.
func checkSubmit(t *testing.T, name string, s aStore, id string, text string, to int64) {
	t.Helper()
	what := named(fmt.Sprint("Submit of ", id, " to ", to, ": ", name), text)
	before := shape(s.d)
	pairs := withPair(s.pairs, id, translatedByHand(text, to).Text)
	for _, steps := range stepsTried(pairs) {
		check(t, fmt.Sprint(what, ", steps ", steps), impl.Submit(s.d, id, text, to, steps), submittedByHand(s, id, text, to, steps))
	}
	out := impl.Submit(s.d, id, text, to, allSteps)
	if out.Code == impl.OK {
		checkFetched(t, "behind "+what, out.Disk, pairs)
		same(t, what+": what is told is fetched", impl.Fetch(out.Disk, id).Text, out.Text)
		same(t, what+": as Translate tells it", out.Text, impl.Translate(text, to).Text)
	}
	same(t, what+": what was handed in", shape(s.d), before)
}

// stopTexts are files that are not brought over to 1, and texts that are no file's; all codes that Translate has are told of them.
func stopTexts(t *testing.T) map[string]impl.EngineOut {
	t.Helper()
	carry, wrong := head251+"\rSFT|a|b", head23+"\rNTE\rOBR"
	stops := map[string]impl.EngineOut{
		bringText(t, []string{carry}):                                                     engineFault(impl.ErrCarry, 0, "SFT[1]"),
		bringText(t, []string{head23, head251}, []string{carry}):                          engineFault(impl.ErrCarry, 2, "SFT[1]"),
		bringText(t, []string{wrong}):                                                     engineFault(impl.ErrSchema, 0, "OBR[1]"),
		bringText(t, []string{head23, head27, wrong}, nil):                                engineFault(impl.ErrSchema, 2, "OBR[1]"),
		bringText(t, nil, []string{head23}, []string{head27 + "\rPV1||I\rPV1||A", wrong}): engineFault(impl.ErrCarry, 1, "PV1[2]-2"),
	}
	for text, fault := range wrongFileTexts() {
		stops[text] = engineFault(fault.Code, fault.At, "")
	}
	return stops
}

// submitTexts are files that are brought over to each version, and have room on a small Disk.
func submitTexts(t *testing.T) []string {
	t.Helper()
	return []string{
		bringText(t), bringText(t, nil), bringText(t, []string{head23}), bringText(t, []string{head27}), bringText(t, []string{head251, head23}, nil, []string{head27}),
	}
}

func TestSubmitOfEach(t *testing.T) {
	for name, s := range rightStores() {
		for i, text := range submitTexts(t) {
			for _, id := range []string{"a", "m_9", twenty("q")} {
				checkSubmit(t, name, s, id, text, int64(i%3+1))
			}
			if len(s.pairs) > 0 {
				checkSubmit(t, name, s, s.pairs[0].id, text, 2)
				checkSubmit(t, name, s, s.pairs[len(s.pairs)-1].id, text, int64(i%3+1))
			}
		}
	}
}

// Where all have room, an id that is there gets the new text, and each other one is there besides.
func TestSubmitToEachVersion(t *testing.T) {
	s := storeOf(30, 3, 0, lettered(impl.MaxKept-1)...)
	for _, text := range submitTexts(t) {
		for to := int64(1); to <= 3; to++ {
			for _, id := range append(idsOf(s.pairs), "a", "zz") {
				checkSubmit(t, "many", s, id, text, to)
				same(t, "code", impl.Submit(s.d, id, text, to, 0).Code, impl.OK)
			}
		}
	}
	for _, c := range stopCases() {
		checkSubmit(t, "what stops", s, "b", bringText(t, c.batches...), c.to)
		for to := int64(1); to <= 3; to++ {
			checkSubmit(t, "what stops", s, "zz", bringText(t, c.batches...), to)
		}
	}
}

// checkNotKept: whatever the steps, that is told and nothing beside it, and the store stays as it is.
func checkNotKept(t *testing.T, what string, d impl.Disk, id string, text string, to int64, want impl.EngineOut) {
	t.Helper()
	before := shape(d)
	for _, steps := range []int64{math.MinInt64, -1, 0, 1, 2, allSteps, math.MaxInt64} {
		check(t, fmt.Sprint("Submit to ", to, ", steps ", steps, ": ", what), impl.Submit(d, id, text, to, steps), want)
	}
	same(t, what+": what was handed in", shape(d), before)
}

// What Translate tells is told, and nothing is kept.
func TestSubmitStops(t *testing.T) {
	codes := map[int64]int{}
	stores := rightStores()
	for text, fault := range stopTexts(t) {
		codes[fault.Code]++
		check(t, named("Translate", text), impl.Translate(text, 1), fault)
		for _, name := range []string{"none", "most", "the smallest, full", "a head pending", "200 pending", "the last number"} {
			for _, id := range []string{"b", "absent"} {
				checkNotKept(t, named(name, text), stores[name].d, id, text, 1, fault)
			}
			checkFetched(t, name, stores[name].d, stores[name].pairs)
		}
	}
	for _, text := range submitTexts(t) {
		for _, to := range noVersions() {
			checkNotKept(t, named("no version", text), stores["many"].d, "b", text, to, engineFault(impl.ErrRange, 0, ""))
		}
	}
	text := fullText(t, impl.MaxBytes)
	checkNotKept(t, "too much comes out", stores["many"].d, "b", text, 2, engineFault(impl.ErrFull, 0, ""))
	for _, code := range []int64{impl.ErrSyntax, impl.ErrCount, impl.ErrSchema, impl.ErrFull, impl.ErrSize, impl.ErrCarry} {
		if codes[code] == 0 {
			t.Errorf("codes: %v", codes)
		}
	}
}

// Of what is no store, and of an id that is no name, ErrForm is told whatever else is wrong.
func TestSubmitNoStore(t *testing.T) {
	right := bringText(t, []string{head23})
	texts := map[string]int64{right: 1, bringText(t, []string{head251 + "\rSFT|a|b"}): 1, bringText(t, []string{head27}): 9, "x": 1, lined(fhs, "FTS|1"): 0, fullText(t, impl.MaxBytes): 2}
	for name, d := range wrongStores() {
		for text, to := range texts {
			for _, id := range []string{"a", "absent", "A", ""} {
				check(t, named("Submit: "+name, id, text), impl.Submit(d, id, text, to, allSteps), engineFault(impl.ErrForm, 0, ""))
			}
		}
		checkNotKept(t, name, d, "a", right, 2, engineFault(impl.ErrForm, 0, ""))
		for _, id := range []string{"a", "absent", "A", ""} {
			check(t, named("Fetch: "+name, id), impl.Fetch(d, id), engineFault(impl.ErrForm, 0, ""))
			for _, steps := range []int64{-1, 0, 1, allSteps} {
				check(t, named("Forget: "+name, id), impl.Forget(d, id, steps), engineFault(impl.ErrForm, 0, ""))
			}
		}
	}
	for name, s := range rightStores() {
		for _, id := range wrongIds() {
			for text, to := range texts {
				check(t, named("Submit: "+name, id, text), impl.Submit(s.d, id, text, to, allSteps), engineFault(impl.ErrForm, 0, ""))
			}
			checkNotKept(t, named(name, id), s.d, id, right, 2, engineFault(impl.ErrForm, 0, ""))
			check(t, named("Fetch: "+name, id), impl.Fetch(s.d, id), engineFault(impl.ErrForm, 0, ""))
			for _, steps := range []int64{-1, 0, 1, allSteps} {
				check(t, named("Forget: "+name, id), impl.Forget(s.d, id, steps), engineFault(impl.ErrForm, 0, ""))
			}
		}
	}
}

// What is too long is refused ahead of all else.
func TestEngineSizes(t *testing.T) {
	disks := []impl.Disk{{}, impl.DiskNew(5), storeOf(9, 3, 0, lettered(impl.MaxKept)...).d}
	size := engineFault(impl.ErrSize, 0, "")
	long := []string{huge(), "a" + huge(), strings.Repeat("a", impl.MaxBytes+1), fullFileText(impl.MaxBytes + 1), strings.Repeat("\x00", 1<<20)}
	for _, d := range disks {
		for _, text := range long {
			for _, to := range []int64{0, 1, 3, 4} {
				for _, id := range []string{"a", "b", "A", "", text} {
					checkNotKept(t, named("a long text", id), d, id, text, to, size)
				}
				checkNotKept(t, "a long id", d, text, "x", to, size)
			}
			check(t, "Fetch", impl.Fetch(d, text), size)
			check(t, "Forget", impl.Forget(d, text, 1), size)
		}
	}
	text := fullText(t, impl.MaxBytes)
	checkNotKept(t, "as long as may be", disks[2], "b", text, 1, engineFault(impl.ErrFull, 0, ""))
	checkNotKept(t, "as long as may be, to no version", disks[2], "b", text, 0, engineFault(impl.ErrRange, 0, ""))
	checkNotKept(t, "an id as long as may be", disks[2], strings.Repeat("a", impl.MaxBytes), text, 1, engineFault(impl.ErrForm, 0, ""))
}

// What StorePut tells is told alone: of one id too many, of too little room, of the last number, and of too much that is pending.
func TestSubmitFull(t *testing.T) {
	full, right := engineFault(impl.ErrFull, 0, ""), bringText(t, []string{head27})
	most := storeOf(30, 3, 0, lettered(impl.MaxKept)...)
	for _, p := range most.pairs {
		checkNotKept(t, "one more", most.d, p.id+"0", right, 1, full)
		checkSubmit(t, "most", most, p.id, right, 1)
		same(t, "one of them", impl.Submit(most.d, p.id, right, 1, allSteps).Code, impl.OK)
	}
	checkFetched(t, "most", most.d, most.pairs)
	last := storeOf(30, impl.MaxTime, 0, lettered(2)...)
	checkNotKept(t, "the last number", last.d, "b", right, 1, full)
	checkSubmit(t, "the last number but one", storeOf(30, impl.MaxTime-1, 0, lettered(2)...), "b", right, 1)
	for pending := mostPending - 5; pending <= mostPending; pending++ {
		s := storeOf(30, 3, 0, lettered(2)...)
		checkSubmit(t, named("crowded", pending), s.on(crowded(s.d, 4, pending)), "b", right, 1)
	}
	for sectors := 3; sectors <= 12; sectors++ {
		s := storeOf(sectors, 3, 1, pair{"a", ""})
		for _, text := range submitTexts(t) {
			checkSubmit(t, named("room", sectors), s, "m", text, 1)
			checkSubmit(t, named("room", sectors), s, "m", text, 2)
		}
	}
	long := fullText(t, 1000)
	room := storeOf(impl.MaxSectors, 3, 1, pair{"a", ""})
	left := roomOf(impl.MaxSectors) - len(pairsText(withPair(room.pairs, "m", long)...)) + len(long)
	for bytes := left - 1; bytes <= left+1; bytes++ {
		code := int64(impl.OK)
		if bytes > left {
			code = impl.ErrFull
		}
		same(t, named("room", bytes), impl.Submit(room.d, "m", fullText(t, bytes), 1, 0).Code, code)
		checkSubmit(t, named("room", bytes), room, "m", fullText(t, bytes), 1)
	}
	checkSubmit(t, "room until it is brought up", room, "m", fullText(t, left), 2)
}

// Of two faults the one that is named first, whatever the steps.
func TestSubmitFaultOrder(t *testing.T) {
	most, few := storeOf(10, 3, 0, lettered(impl.MaxKept)...).d, storeOf(3, 3, 1, lettered(2)...).d
	carry, wrong := bringText(t, []string{head23, head251 + "\rSFT|a|b"}), bringText(t, []string{head23 + "\rOBR"})
	none := impl.DiskNew(5)
	for _, c := range []struct {
		what string
		d    impl.Disk
		id   string
		text string
		to   int64
		want impl.EngineOut
	}{
		{"size, no store, no name, no version", none, "A", huge(), 0, engineFault(impl.ErrSize, 0, "")},
		{"no store, no name, no file, no version", none, "A", "x", 0, engineFault(impl.ErrForm, 0, "")},
		{"no store, no file", none, "a", "x", 1, engineFault(impl.ErrForm, 0, "")},
		{"no store, not brought over", none, "a", carry, 1, engineFault(impl.ErrForm, 0, "")},
		{"no name, no file", most, "A", "x", 1, engineFault(impl.ErrForm, 0, "")},
		{"no name, not brought over", most, "", wrong, 1, engineFault(impl.ErrForm, 0, "")},
		{"no name, no version", most, "1", carry, 4, engineFault(impl.ErrForm, 0, "")},
		{"no file, no version, one more", most, "a", lined(fhs, "FTS|1"), 4, engineFault(impl.ErrCount, 1, "")},
		{"no version, out of order, one more", most, "a", wrong, 4, engineFault(impl.ErrRange, 0, "")},
		{"not brought over, one more", most, "a", carry, 1, engineFault(impl.ErrCarry, 1, "SFT[1]")},
		{"out of order, one more", most, "a", wrong, 1, engineFault(impl.ErrSchema, 0, "OBR[1]")},
		{"not brought over, no room", few, "a", carry, 1, engineFault(impl.ErrCarry, 1, "SFT[1]")},
		{"one more, no room", most, "a", bringText(t, slices.Repeat([]string{head23}, 20)), 1, engineFault(impl.ErrFull, 0, "")},
		{"no room", few, "a", bringText(t, []string{head23}), 1, engineFault(impl.ErrFull, 0, "")},
	} {
		checkNotKept(t, c.what, c.d, c.id, c.text, c.to, c.want)
	}
}

func TestFetchAndForget(t *testing.T) {
	for name, s := range rightStores() {
		checkFetched(t, name, s.d, s.pairs)
		for _, id := range append(idsOf(s.pairs), rightIds()...) {
			pairs := withoutPair(s.pairs, id)
			for _, steps := range stepsTried(pairs) {
				put := putByHand(s, pairs, steps)
				want := impl.EngineOut{Disk: put.Disk, Code: put.Code}
				if len(pairs) == len(s.pairs) {
					want = engineFault(impl.ErrNone, 0, "")
				}
				check(t, fmt.Sprint("Forget of ", id, ", steps ", steps, ": ", name), impl.Forget(s.d, id, steps), want)
			}
			if out := impl.Forget(s.d, id, allSteps); out.Code == impl.OK {
				checkFetched(t, "behind Forget of "+id+": "+name, out.Disk, pairs)
			}
		}
	}
}

// recoveredByHand is what Recover is asked for, by the words of chapters 3 and 10.
func recoveredByHand(d impl.Disk, keep []int64) impl.EngineOut {
	if len(keep) > impl.MaxList {
		return engineFault(impl.ErrSize, 0, "")
	}
	if !impl.DiskRight(d) {
		return engineFault(impl.ErrForm, 0, "")
	}
	crashed := impl.Disk{Sectors: slices.Clone(d.Sectors)}
	for i, p := range d.Pending {
		if i < len(keep) && keep[i] > 0 {
			crashed.Sectors[p.At] = p.Data
		}
	}
	read := impl.AreaRead(crashed)
	if _, right := pairsByHand(read.Text); read.Code != impl.OK || !right {
		return engineFault(impl.ErrForm, 0, "")
	}
	return impl.EngineOut{Disk: crashed}
}

// someKeeps: none, and lists that are shorter, as long, and longer than what is pending, of all kinds of numbers.
func someKeeps(random *rand.Rand, pending int) [][]int64 {
	list := [][]int64{nil, {}, {0}, {1}, {-1}, {math.MinInt64}, {math.MaxInt64}, {0, 1}, {1, 0}, make([]int64, impl.MaxList), slices.Repeat([]int64{1}, impl.MaxList), slices.Repeat([]int64{-1}, impl.MaxList), randomKeep(random)}
	for _, size := range []int{pending - 1, pending, pending + 1} {
		if size > 0 {
			mixed := slices.Repeat([]int64{1, 0, -7, 2}, size)[:size]
			list = append(list, mixed, slices.Repeat([]int64{2}, size), slices.Repeat([]int64{math.MaxInt64}, size), slices.Repeat([]int64{-2}, size), make([]int64, size))
		}
	}
	return list
}

func checkRecover(t *testing.T, name string, d impl.Disk, keeps [][]int64) map[int64]int {
	t.Helper()
	codes := map[int64]int{}
	for _, keep := range keeps {
		before := shape(d) + shape(keep)
		got := impl.Recover(d, keep)
		codes[got.Code]++
		check(t, fmt.Sprintf("Recover, %.40v: %s", keep, name), got, recoveredByHand(d, keep))
		same(t, "what was handed in: "+name, shape(d)+shape(keep), before)
		if got.Code == impl.OK {
			check(t, "recovered again: "+name, impl.Recover(got.Disk, keep), got)
			check(t, "recovered again, nothing kept: "+name, impl.Recover(got.Disk, nil), got)
		}
	}
	return codes
}

func TestRecover(t *testing.T) {
	random := rand.New(rand.NewSource(11))
	for name, d := range wrongDisks() {
		codes := checkRecover(t, name, d, someKeeps(random, len(d.Pending)))
		same(t, "codes: "+name, codes[impl.ErrForm] > 10 && codes[impl.OK] == 0, true)
	}
	for name, d := range rightDisks() {
		checkRecover(t, name, d, someKeeps(random, len(d.Pending)))
	}
	for name, d := range wrongStores() {
		checkRecover(t, name, d, someKeeps(random, len(d.Pending)))
	}
	for name, s := range rightStores() {
		checkRecover(t, name, s.d, someKeeps(random, len(s.d.Pending)))
		if len(s.d.Pending) == 0 {
			check(t, "nothing pending: "+name, impl.Recover(s.d, nil), impl.EngineOut{Disk: s.d})
		}
	}
	s := storeOf(9, 3, 0, lettered(2)...)
	for name, d := range map[string]impl.Disk{"a store by what is pending": withPending(withSector(s.d, 0, ""), 0, s.d.Sectors[0]), "no store by what is pending": withPending(s.d, 0, ""), "one of two": withPending(withPending(s.d, 0, "no head"), 0, s.d.Sectors[0])} {
		codes := checkRecover(t, name, d, keepsOf(random, len(d.Pending)))
		same(t, "codes: "+name, codes[impl.OK] > 0 && codes[impl.ErrForm] > 0, true)
	}
	tooLong := slices.Repeat([]int64{1}, impl.MaxList+1)
	for _, d := range []impl.Disk{{}, impl.DiskNew(5), s.d, withPending(s.d, 0, ""), diskOf(3, mostPending+1)} {
		for _, keep := range [][]int64{tooLong, make([]int64, impl.MaxList+1), make([]int64, 3*impl.MaxList)} {
			check(t, "keep of too many", impl.Recover(d, keep), engineFault(impl.ErrSize, 0, ""))
		}
	}
}
