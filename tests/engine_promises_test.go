package tests

import (
	"fmt"
	"math/rand"
	"reflect"
	"slices"
	"strings"
	"testing"

	"loop.example/g00416/impl"
)

// engineText is the text of a file in order, or with something wrong with it, for a good part small enough to be kept.
func engineText(random *rand.Rand) string {
	if random.Intn(8) == 0 {
		return lined(harmed(random, randomLines(random))...)
	}
	for {
		f := inOrderFile(random)
		if random.Intn(3) > 0 && len(f.Batches) > 1 {
			f.Batches = f.Batches[:1]
		}
		if text := textByHand(f); text != "" {
			return text
		}
	}
}

// What comes of any file is what the table and the bridges by hand tell.
func TestEngineAnyFile(t *testing.T) {
	random := rand.New(rand.NewSource(25))
	told, first := map[int64]int{}, map[int64]int{}
	for range 800 {
		text := engineText(random)
		for to := int64(0); to <= 4; to++ {
			want := translatedByHand(text, to)
			told[want.Code]++
			check(t, named(fmt.Sprint("Translate to ", to), text), impl.Translate(text, to), want)
		}
		want := firstFaultByHand(text)
		first[want.Code]++
		check(t, named("FirstFault", text), impl.FirstFault(text), want)
	}
	for _, code := range []int64{impl.OK, impl.ErrRange, impl.ErrCarry, impl.ErrSchema, impl.ErrSyntax} {
		if told[code] < 100 || code != impl.ErrRange && code != impl.ErrCarry && first[code] < 40 {
			t.Errorf("told: %v, of FirstFault: %v", told, first)
		}
	}
}

// What is brought over is in order, of that version, and brought over to it as it is.
func TestEngineBroughtOverIsInOrder(t *testing.T) {
	random := rand.New(rand.NewSource(26))
	over := 0
	for range 800 {
		text, to := engineText(random), int64(1+random.Intn(3))
		out := impl.Translate(text, to)
		if out.Code != impl.OK {
			continue
		}
		over++
		check(t, named("in order", text), impl.FirstFault(out.Text), impl.EngineOut{})
		check(t, named("brought over again", text), impl.Translate(out.Text, to), out)
		for _, m := range impl.AllOf(impl.FileRead(out.Text).File) {
			same(t, named("its version", text), int64(versionIn(m)), to)
		}
	}
	if over < 200 {
		t.Errorf("only %d brought over", over)
	}
}

// Promise 22: a file that is submitted is fetched as it was brought over, whole; one that is not leaves the store as it is.
func TestPromise22SubmittedIsFetched(t *testing.T) {
	random := rand.New(rand.NewSource(27))
	ids := []string{"a", "a0", "aa", "b", "c_", "d", "e", "f", "g", "h", "i", "j", "k", "l9", strings.Repeat("m", 20), "n"}
	codes := map[int64]int{}
	for _, sectors := range []int{3, 12, 40, impl.MaxSectors} {
		s := storeOf(sectors, 1, 1)
		for range 250 {
			s = promise22Step(t, random, s, ids[random.Intn(len(ids))], codes)
		}
	}
	for _, code := range []int64{impl.OK, impl.ErrNone, impl.ErrFull, impl.ErrCarry, impl.ErrSchema, impl.ErrSyntax, impl.ErrRange} {
		if codes[code] < 10 {
			t.Errorf("codes: %v", codes)
		}
	}
}

// promise22Step submits a file to a store, or forgets one, and tells the store then, and what it keeps.
func promise22Step(t *testing.T, random *rand.Rand, s aStore, id string, codes map[int64]int) aStore {
	t.Helper()
	before := shape(s.d)
	text, to := engineText(random), int64(random.Intn(16)%5)
	out, want, pairs := impl.Submit(s.d, id, text, to, allSteps), submittedByHand(s, id, text, to, allSteps), withPair(s.pairs, id, translatedByHand(text, to).Text)
	if random.Intn(4) == 0 {
		out, pairs = impl.Forget(s.d, id, allSteps), withoutPair(s.pairs, id)
		put := putByHand(s, pairs, allSteps)
		want = impl.EngineOut{Disk: put.Disk, Code: put.Code}
		if len(pairs) == len(s.pairs) {
			want = engineFault(impl.ErrNone, 0, "")
		}
	}
	codes[out.Code]++
	check(t, named("promise 22", id, text), out, want)
	same(t, "promise 22, handed in", shape(s.d), before)
	if out.Code == impl.OK {
		s = aStore{out.Disk, s.gen + 1, 1 - s.side, pairs}
	}
	checkFetched(t, "promise 22", s.d, s.pairs)
	recovered := impl.Recover(s.d, randomKeep(random))
	check(t, "promise 22, recovered", recovered, impl.EngineOut{Disk: s.d})
	return s
}

// Promise 23: wherever the power goes, all that was in the store is there, and the file whole, or what was there by its id.
func TestPromise23WhereverThePowerGoes(t *testing.T) {
	random := rand.New(rand.NewSource(28))
	texts := append(submitTexts(t), bringText(t, []string{head23, head23 + "\rZZZ|a", head251}, []string{head27 + "\rPV1||I"}))
	stores := []aStore{
		storeOf(40, 3, 0), storeOf(40, 8, 1, lettered(3)...), storeOf(41, 3, 1, pair{"b", texts[2]}, pair{"c", texts[4]}, pair{"d", ""}), storeOf(impl.MaxSectors, impl.MaxTime-1, 0, lettered(impl.MaxKept-1)...), storeOf(impl.MaxSectors, 7, 0, pair{"a", textOf(800, "a")}, pair{"b", textOf(300, "b")}, pair{"z", textOf(200, "z")}),
	}
	seen := map[string]int{}
	for _, s := range stores {
		for i, text := range texts {
			for _, id := range []string{"b", "m"} {
				checkTornSubmits(t, random, s, id, text, int64(i%3+1), seen)
			}
		}
	}
	if seen["as ahead"] < 500 || seen["new"] < 100 {
		t.Errorf("seen: %v", seen)
	}
}

// checkTornSubmits: each number of steps, and many choices of what is kept of all that is pending then.
func checkTornSubmits(t *testing.T, random *rand.Rand, s aStore, id string, text string, to int64, seen map[string]int) {
	t.Helper()
	whole := impl.Submit(s.d, id, text, to, allSteps)
	same(t, "promise 23, code", whole.Code, impl.OK)
	pairs := withPair(s.pairs, id, whole.Text)
	last := len(stepsOf(s.d, s.gen+1, 1-s.side, pairsText(pairs...))) - 1
	for steps := -1; steps <= last+1; steps++ {
		torn := impl.Submit(s.d, id, text, to, int64(steps))
		same(t, "promise 23, code", torn.Code, impl.OK)
		same(t, "promise 23, text", torn.Text, whole.Text)
		pending := len(torn.Disk.Pending)
		keeps := append(keepsOf(random, pending), nil, slices.Repeat([]int64{1}, pending), slices.Repeat([]int64{1}, pending+3), randomKeep(random))
		for _, keep := range keeps {
			out := impl.Recover(torn.Disk, keep)
			headKept := pending > 0 && torn.Disk.Pending[pending-1].At == 0 && len(keep) >= pending && keep[pending-1] > 0
			want, what := s.pairs, "as ahead"
			if steps >= last || headKept {
				want, what = pairs, "new"
			}
			seen[what]++
			same(t, "promise 23, recovered", out.Code, impl.OK)
			checkKept(t, fmt.Sprintf("promise 23, %d steps of %d, %s", steps, last, what), out.Disk, want)
			check(t, "promise 23, recovered again", impl.Recover(out.Disk, keep), out)
		}
	}
}

// checkKept: just these are fetched.
func checkKept(t *testing.T, what string, d impl.Disk, pairs []pair) {
	t.Helper()
	check(t, what, impl.StoreNames(d), idsOf(pairs))
	for _, p := range pairs {
		check(t, what+": "+p.id, impl.Fetch(d, p.id), impl.EngineOut{Disk: d, Text: p.text})
	}
}

// What is behind a crash takes the file again, and so it is there.
func TestPromise23SubmittedAgain(t *testing.T) {
	s := storeOf(40, 3, 0, lettered(4)...)
	text := bringText(t, []string{head23}, []string{head27, head251})
	for steps := range int64(16) {
		torn := impl.Submit(s.d, "c", text, 2, steps)
		back := impl.Recover(torn.Disk, nil).Disk
		again := impl.Submit(back, "c", text, 2, allSteps)
		checkFetched(t, fmt.Sprint("submitted again behind steps ", steps), again.Disk, withPair(s.pairs, "c", torn.Text))
		forgot := impl.Recover(impl.Forget(again.Disk, "c", steps).Disk, nil).Disk
		if got := len(impl.StoreNames(forgot)); got != 4 && got != 5 {
			t.Errorf("%d kept behind a torn Forget", got)
		}
	}
}

func TestEngineCallsOfAnything(t *testing.T) {
	random := rand.New(rand.NewSource(29))
	for range 3000 {
		var d impl.Disk
		for range random.Intn(8) {
			d.Sectors = append(d.Sectors, textOf(random.Intn(66), "s"))
		}
		for range random.Intn(4) {
			d.Pending = append(d.Pending, impl.Pending{At: int64(random.Intn(8) - 1), Data: headOf(int64(random.Intn(3)), int64(random.Intn(2)), int64(random.Intn(60)))})
		}
		text := randomTextOf(random, 60)
		keep := randomKeep(random)
		check(t, "Recover", impl.Recover(d, keep), recoveredByHand(d, keep))
		check(t, "Translate", impl.Translate(text, int64(random.Intn(5))).Code, impl.FileRead(text).Code)
		check(t, "FirstFault", impl.FirstFault(text), engineFault(impl.FileRead(text).Code, impl.FileRead(text).At, ""))
		impl.Submit(d, text[:min(2, len(text))], text, int64(random.Intn(5)), int64(random.Intn(9)-2))
		impl.Fetch(d, text)
		impl.Forget(d, text, int64(random.Intn(9)-2))
	}
}

// randomTextOf has bytes of any kind, of which a file's are a good part.
func randomTextOf(random *rand.Rand, bytes int) string {
	const alphabet = "FHSBTM|^~\\&a19\r\n\x00\xff"
	text := ""
	for range random.Intn(bytes) {
		text += alphabet[random.Intn(len(alphabet)):][:1]
	}
	return text
}

// engineCalls: what each call tells of a Disk; an id of it, another id, a text that is brought over to 1, and what is kept.
func engineCalls(d impl.Disk, id string, other string, text string, keep []int64) map[string]any {
	calls := map[string]any{
		"FirstFault":     impl.FirstFault(text),
		"Fetch":          impl.Fetch(d, id),
		"Fetch, none":    impl.Fetch(d, other),
		"Fetch, wrong":   impl.Fetch(d, "A"),
		"Forget, none":   impl.Forget(d, other, allSteps),
		"Recover":        impl.Recover(d, keep),
		"Recover, none":  impl.Recover(d, nil),
		"Submit, wrong":  impl.Submit(d, "A", text, 1, allSteps),
		"Submit, id":     impl.Submit(d, id, id, 1, allSteps),
		"FirstFault, id": impl.FirstFault(id),
	}
	for to := int64(0); to <= 4; to++ {
		calls[named("Translate", to)] = impl.Translate(text, to)
		for _, steps := range []int64{-1, 0, 1, 2, 5, allSteps} {
			calls[named("Submit", to, steps)] = impl.Submit(d, id, text, to, steps)
			calls[named("Submit, other", to, steps)] = impl.Submit(d, other, text, to, steps)
			calls[named("Forget", steps)] = impl.Forget(d, id, steps)
		}
	}
	return calls
}

// memoryTexts are brought over, or are not, by each of their reasons.
func memoryTexts(t *testing.T) []string {
	t.Helper()
	texts := []string{bringText(t), bringText(t, []string{head23}), bringText(t, []string{head251, head27 + "\rZZZ|ab^cd"}, []string{head23 + "\rPID|1||id~other||Smith"})}
	for text := range stopTexts(t) {
		texts = append(texts, strings.Clone(text))
	}
	return texts
}

// An answer shares no memory with what was handed in, with no other answer, and no two lists of it share any.
func TestEngineMemory(t *testing.T) {
	stores := memoryStores()
	texts := memoryTexts(t)
	for name, s := range stores {
		d, keep := ownTexts(s.d), []int64{1, 0, 2, -1}
		id, other := strings.Clone(s.pairs[0].id), strings.Clone("absent")
		told := shape(d)
		for _, text := range texts[:5] {
			again := engineCalls(d, id, other, text, keep)
			for call, answer := range engineCalls(d, id, other, text, keep) {
				checkMemory(t, call+": "+name, answer, d, id, other, text, keep)
				checkMemory(t, call+", again: "+name, answer, again[call])
			}
		}
		same(t, "handed in: "+name, shape(d)+shape(keep), told+shape([]int64{1, 0, 2, -1}))
	}
	d := ownTexts(stores["one"].d)
	for _, text := range texts {
		for call, answer := range engineCalls(d, "absent", "bb", text, nil) {
			checkMemory(t, named(call, text), answer, d, text)
		}
	}
}

// The Text that Submit tells, and what is on the Disk, are two.
func TestEngineTextIsApart(t *testing.T) {
	s := memoryStores()["one"]
	out := impl.Submit(s.d, "absent", bringText(t, []string{head27}), 1, allSteps)
	for _, text := range out.Disk.Sectors {
		if text != "" && sharesText(text, out.Text) {
			t.Errorf("%q stands in the memory of the Text", text)
		}
	}
}

// engineDisks: the Disk that each call answers.
func engineDisks(text string) func(d impl.Disk) map[string]impl.Disk {
	return func(d impl.Disk) map[string]impl.Disk {
		disks := map[string]impl.Disk{"Recover, nothing kept": impl.Recover(d, nil).Disk, "Recover, one kept": impl.Recover(d, []int64{1}).Disk, "Recover, all kept": impl.Recover(d, slices.Repeat([]int64{1}, 300)).Disk}
		for _, id := range append(impl.StoreNames(d), "absent") {
			disks["Fetch of "+id] = impl.Fetch(d, id).Disk
			for _, steps := range []int64{0, 1, 3, allSteps} {
				disks[named("Submit", id, steps)] = impl.Submit(d, id, text, 1, steps).Disk
				disks[named("Forget", id, steps)] = impl.Forget(d, id, steps).Disk
			}
		}
		return disks
	}
}

// Disks that were handed out, and handed in, are written to: the other one stays.
func TestEngineApart(t *testing.T) {
	stores := rightStores()
	calls := engineDisks(bringText(t))
	for _, name := range []string{"none", "one", "empty texts", "a head pending", "all pending", "200 pending", "the last number"} {
		checkApart(t, name, stores[name].d, calls)
	}
	for name, d := range wrongStores() {
		checkApart(t, name, d, calls)
	}
}

// A list of what is kept is written to, behind its end too, once it was handed in: what was handed out stays.
func TestRecoverKeepWrittenTo(t *testing.T) {
	s := rightStores()["all pending"]
	for _, size := range []int{0, 1, 2, 3, 5, 200, impl.MaxList} {
		keep := make([]int64, size, size+7)
		for i := range keep {
			keep[i] = int64(i % 2)
		}
		before := shape(keep[:cap(keep)])
		out := impl.Recover(s.d, keep)
		told := shape(out)
		same(t, "handed in", shape(keep[:cap(keep)]), before)
		keep = keep[:cap(keep)]
		for i := range keep {
			keep[i] = 1 - keep[i]
		}
		same(t, "handed out", shape(out), told)
	}
}

// Nothing is kept from call to call: the same is told again, whatever was asked between.
func TestEngineKeepsNothing(t *testing.T) {
	s := rightStores()["many"]
	text := bringText(t, []string{head23}, []string{head27})
	calls := engineCalls(s.d, "b", "absent", text, []int64{1})
	for _, other := range rightStores() {
		engineCalls(other.d, "b", "c", bringText(t, []string{head251}), nil)
	}
	for _, d := range wrongStores() {
		engineCalls(d, "b", "c", "x", nil)
	}
	for _, other := range memoryTexts(t) {
		engineCalls(s.d, "d", "e", other, []int64{0})
	}
	if again := engineCalls(s.d, "b", "absent", text, []int64{1}); !reflect.DeepEqual(again, calls) {
		t.Errorf("told again: %q, was %q", again, calls)
	}
}
