package tests

import (
	"encoding/binary"
	"math/rand"
	"reflect"
	"slices"
	"strings"
	"testing"

	"loop.example/g00416/impl"
)

// numByHand: the number at the beginning of a text, and what is behind it; written in as few bytes as may be.
func numByHand(text string) (int, string, bool) {
	n, read := binary.Varint([]byte(text))
	if read <= 0 || len(binary.AppendVarint(nil, n)) != read {
		return 0, "", false
	}
	return int(n), text[read:], true
}

func textPartByHand(text string) (string, string, bool) {
	n, behind, ok := numByHand(text)
	if !ok || n < 0 || n > len(behind) {
		return "", "", false
	}
	return behind[:n], behind[n:], true
}

// pairsByHand reads what a store's text keeps, one by one, by the words of chapter 10.
func pairsByHand(text string) ([]pair, bool) {
	count, text, ok := numByHand(text)
	if !ok || count < 0 || count > 12 {
		return nil, false
	}
	var pairs []pair
	for range count {
		var p pair
		var ok, more bool
		p.id, text, ok = textPartByHand(text)
		p.text, text, more = textPartByHand(text)
		last := len(pairs) - 1
		if !ok || !more || !impl.NameRight(p.id) || last >= 0 && p.id <= pairs[last].id {
			return nil, false
		}
		pairs = append(pairs, p)
	}
	return pairs, text == ""
}

// checkStoreText: a Disk with that text is a store just where it is one by hand, and keeps just the same.
func checkStoreText(t *testing.T, text string) bool {
	t.Helper()
	d := areaOf(33, 5, len(text)%2, text)
	pairs, right := pairsByHand(text)
	if !right {
		checkNoStore(t, named("text", text), d)
		return false
	}
	checkKeeps(t, named("text", text), d, pairs)
	return true
}

func randomPairs(random *rand.Rand) []pair {
	var pairs []pair
	for range random.Intn(impl.MaxKept + 1) {
		id := randomId(random)
		pairs = withPair(pairs, id[:min(len(id), 1+random.Intn(20))], textOf(random.Intn(70), "r"))
	}
	return pairs
}

// turnedText has a byte turned, taken out, put in, or changed about with the next one.
func turnedText(random *rand.Rand, text string) string {
	at := random.Intn(len(text))
	b := string([]byte{byte(random.Intn(256))})
	switch random.Intn(5) {
	case 0:
		return text[:at] + b + text[at+1:]
	case 1:
		return text[:at] + text[at+1:]
	case 2:
		return text[:at] + b + text[at:]
	case 3:
		return text[:at] + string([]byte{text[at] ^ 2}) + text[at+1:]
	}
	return text[at:] + text[:at]
}

func TestStoreTextsByHand(t *testing.T) {
	random := rand.New(rand.NewSource(21))
	told := map[bool]int{}
	for range 400 {
		pairs := randomPairs(random)
		text := pairsText(pairs...)
		told[checkStoreText(t, text)]++
		for range 6 {
			told[checkStoreText(t, turnedText(random, text))]++
		}
		random.Shuffle(len(pairs), func(i int, j int) { pairs[i], pairs[j] = pairs[j], pairs[i] })
		told[checkStoreText(t, pairsText(pairs...))]++
	}
	if told[true] < 400 || told[false] < 1000 {
		t.Errorf("stores and others: %v", told)
	}
	for _, text := range wrongTexts() {
		if checkStoreText(t, text) {
			t.Errorf("%q is a store's", text)
		}
	}
}

// Promise 21: a text that is put is got again, and all others are as ahead.
func TestPromise21PutIsGot(t *testing.T) {
	random := rand.New(rand.NewSource(22))
	ids := []string{"a", "a0", "aa", "b", "c_", "d", "e", "f", "g", "h", "i", "j", "k", "l9", strings.Repeat("m", 20), "n"}
	for _, sectors := range []int64{3, 4, 5, 8, 21, impl.MaxSectors} {
		d, pairs := impl.StoreNew(sectors), []pair(nil)
		codes := map[int64]int{}
		for range 150 {
			id, text := ids[random.Intn(len(ids))], textOf(random.Intn(int(sectors)*4), "p")
			out, kept := impl.StorePut(d, id, text, allSteps), withPair(pairs, id, text)
			if random.Intn(4) == 0 {
				out, kept = impl.StoreDrop(d, id, allSteps), withoutPair(pairs, id)
			}
			codes[out.Code]++
			if out.Code == impl.OK {
				d, pairs = out.Disk, kept
			}
			checkKeeps(t, "promise 21", d, pairs)
			checkKeeps(t, "promise 21, behind a crash", impl.DiskCrash(d, randomKeep(random)), pairs)
		}
		if codes[impl.OK] < 30 || codes[impl.ErrNone] < 5 || codes[impl.ErrFull] < 5 || len(codes) != 3 {
			t.Errorf("%d sectors: codes %v", sectors, codes)
		}
	}
}

// Wherever the power goes while a text is put, or dropped, the store keeps what it kept ahead, or all of the new.
func TestStoreWhereverThePowerGoes(t *testing.T) {
	random := rand.New(rand.NewSource(23))
	long := []pair{{"a", textOf(100, "a")}, {"c", textOf(30, "c")}}
	s := storeOf(12, 7, 1, long...)
	all := withPair(long, "b", "between")
	for steps := range int64(9) {
		put, drop := impl.StorePut(s.d, "b", "between", steps).Disk, impl.StoreDrop(s.d, "a", steps).Disk
		for _, keep := range keepsOf(random, 5) {
			checkOneOf(t, impl.DiskCrash(put, keep), long, all)
			checkOneOf(t, impl.DiskCrash(drop, keep), long, long[1:])
		}
	}
	checkKeeps(t, "put, all steps", impl.DiskCrash(impl.StorePut(s.d, "b", "between", 6).Disk, nil), all)
	checkKeeps(t, "put, all steps but the last", impl.DiskCrash(impl.StorePut(s.d, "b", "between", 5).Disk, nil), long)
	checkKeeps(t, "dropped, all steps", impl.DiskCrash(impl.StoreDrop(s.d, "a", 4).Disk, nil), long[1:])
	checkKeeps(t, "dropped, all steps but the last", impl.DiskCrash(impl.StoreDrop(s.d, "a", 3).Disk, nil), long)
}

func checkOneOf(t *testing.T, d impl.Disk, old []pair, put []pair) {
	t.Helper()
	now := old
	if !slices.Equal(impl.StoreNames(d), idsOf(old)) {
		now = put
	}
	checkKeeps(t, "behind a crash", d, now)
}

func TestStoreCallsOfAnything(t *testing.T) {
	random := rand.New(rand.NewSource(24))
	for range 3000 {
		var d impl.Disk
		for range random.Intn(8) {
			d.Sectors = append(d.Sectors, textOf(random.Intn(66), "s"))
		}
		for range random.Intn(4) {
			d.Pending = append(d.Pending, impl.Pending{At: int64(random.Intn(8) - 1), Data: headOf(int64(random.Intn(3)), int64(random.Intn(2)), int64(random.Intn(60)))})
		}
		id := textOf(random.Intn(3), "a")
		right := impl.StoreRight(d)
		same(t, "right", right, impl.StoreGet(d, "a").Code != impl.ErrForm)
		impl.StorePut(d, id, id, int64(random.Intn(9)-2))
		impl.StoreDrop(d, id, int64(random.Intn(9)-2))
		impl.StoreNames(d)
	}
}

// storeCalls: what each call tells of a Disk; an id of it, another id, a text.
func storeCalls(d impl.Disk, id string, other string, text string) map[string]any {
	calls := map[string]any{
		"StoreRight":       impl.StoreRight(d),
		"StoreNames":       impl.StoreNames(d),
		"StoreNew":         impl.StoreNew(7),
		"StoreGet":         impl.StoreGet(d, id),
		"StoreGet, none":   impl.StoreGet(d, other),
		"StoreGet, wrong":  impl.StoreGet(d, "A"),
		"StorePut, wrong":  impl.StorePut(d, "A", text, allSteps),
		"StoreDrop, wrong": impl.StoreDrop(d, "A", allSteps),
		"StoreDrop, none":  impl.StoreDrop(d, other, allSteps),
	}
	for _, steps := range []int64{-1, 0, 1, 2, 3, allSteps} {
		calls[named("StorePut", steps)] = impl.StorePut(d, id, text, steps)
		calls[named("StorePut, other", steps)] = impl.StorePut(d, other, text, steps)
		calls[named("StoreDrop", steps)] = impl.StoreDrop(d, id, steps)
	}
	return calls
}

// ownTexts: the same Disk in memory of its own.
func ownTexts(d impl.Disk) impl.Disk {
	own := impl.Disk{Sectors: cloneTexts(d.Sectors)}
	for _, p := range d.Pending {
		own.Pending = append(own.Pending, impl.Pending{At: p.At, Data: strings.Clone(p.Data)})
	}
	return roomy(own)
}

// memoryStores have no text of a byte alone: those stand in memory that is the language's own.
func memoryStores() map[string]aStore {
	var most []pair
	for _, p := range lettered(impl.MaxKept) {
		most = append(most, pair{p.id + p.id, p.text})
	}
	long := append(slices.Clone(most[:3]), pair{"zz", textOf(150, "l")})
	s := storeOf(11, 3, 1, long...)
	return map[string]aStore{
		"one":               storeOf(5, 3, 0, most[:1]...),
		"most":              storeOf(10, 3, 1, most...),
		"an empty text":     storeOf(10, 3, 0, most[0], pair{"zz", ""}),
		"the last number":   storeOf(10, impl.MaxTime, 0, most...),
		"long":              s,
		"a text pending":    s.on(atPending(s.d, 7, "other")),
		"a head pending":    s.on(atPending(s.d, 0, "no head")),
		"195 pending":       s.on(crowded(s.d, 1, mostPending-5)),
		"200 pending":       s.on(crowded(s.d, 2, mostPending)),
		"the largest, full": storeOf(impl.MaxSectors, 5, 0, filledUp(roomOf(impl.MaxSectors), most[:11]...)...),
	}
}

func TestStoreMemory(t *testing.T) {
	for name, s := range memoryStores() {
		d := ownTexts(s.d)
		id, other, text := strings.Clone(s.pairs[0].id), strings.Clone("absent"), strings.Clone("what is put by it")
		told := shape(d)
		for call, answer := range storeCalls(d, id, other, text) {
			checkMemory(t, call+": "+name, answer, d, id, other, text)
			checkMemory(t, call+", again: "+name, answer, storeCalls(d, id, other, text)[call])
		}
		same(t, "handed in: "+name, shape(d), told)
	}
	for name, d := range wrongStores() {
		checkApart(t, name, d, storeDisks)
	}
}

// storeDisks: the Disk that each call answers.
func storeDisks(d impl.Disk) map[string]impl.Disk {
	disks := map[string]impl.Disk{}
	for _, id := range append(impl.StoreNames(d), "absent") {
		disks["StoreGet of "+id] = impl.StoreGet(d, id).Disk
		for steps := range int64(6) {
			disks[named("StorePut", id, steps)] = impl.StorePut(d, id, "text", steps).Disk
			disks[named("StoreDrop", id, steps)] = impl.StoreDrop(d, id, steps).Disk
		}
	}
	return disks
}

// Disks that were handed out, and handed in, are written to: the other one stays.
func TestStoreApart(t *testing.T) {
	stores := rightStores()
	for _, name := range []string{"none", "one", "empty texts", "a head pending", "all pending", "200 pending", "the last number"} {
		checkApart(t, name, stores[name].d, storeDisks)
	}
	one := impl.StoreNew(5)
	spoil(one)
	checkKeeps(t, "StoreNew again", impl.StoreNew(5), nil)
}

func TestStoreNamesWrittenTo(t *testing.T) {
	for name, s := range rightStores() {
		d := cloneDisk(s.d)
		names := impl.StoreNames(d)
		for i := range names {
			names[i] = "spoilt"
		}
		for range cap(names) - len(names) {
			names = append(names, "spoilt")
		}
		checkKeeps(t, "names written to: "+name, d, s.pairs)
		checkDisk(t, "names written to: "+name, d, s.d)
		names = impl.StoreNames(d)
		spoil(d)
		check(t, "disk written to: "+name, names, idsOf(s.pairs))
	}
}

// Nothing is kept from call to call: the same is told again, whatever was asked between.
func TestStoreKeepsNothing(t *testing.T) {
	s := rightStores()["many"]
	calls := storeCalls(s.d, "b", "absent", "text")
	for _, other := range rightStores() {
		storeCalls(other.d, "b", "c", "other")
	}
	for _, d := range wrongStores() {
		storeCalls(d, "b", "c", "other")
	}
	if again := storeCalls(s.d, "b", "absent", "text"); !reflect.DeepEqual(again, calls) {
		t.Errorf("told again: %q, was %q", again, calls)
	}
}
