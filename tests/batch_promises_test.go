package tests

import (
	"fmt"
	"math/rand"
	"reflect"
	"strings"
	"testing"

	"loop.example/g00416/impl"
)

func randomId(random *rand.Rand) string {
	const letters, all = "abcxyz", "abcxyz0189_"
	id := letters[random.Intn(len(letters)):][:1]
	for range random.Intn(20) {
		id += all[random.Intn(len(all)):][:1]
	}
	return id
}

// randomFile has Messages of any kind, few or many of them.
func randomFile(random *rand.Rand, batches int, messages int) impl.File {
	f := impl.File{Id: randomId(random)}
	for range random.Intn(batches + 1) {
		b := batchOf(randomId(random))
		for range random.Intn(messages + 1) {
			m := impl.Message{Marks: usual, Segments: []impl.Segment{randomSegment(random, usual, "MSH", 4)}}
			for range random.Intn(4) {
				name := []string{"PID", "PV1", "Z01", "FHT", "ZZZ", "BTR"}[random.Intn(6)]
				m.Segments = append(m.Segments, randomSegment(random, usual, name, 3))
			}
			b.Messages = append(b.Messages, m)
		}
		f.Batches = append(f.Batches, b)
	}
	return f
}

// textByHand: the lines of a right File; none, if they are more than a text has room for.
func textByHand(f impl.File) string {
	text := lined(`FHS|^~\&|` + f.Id)
	for _, b := range f.Batches {
		text += lined(`BHS|^~\&|` + b.Id)
		for _, m := range b.Messages {
			text += impl.MessageText(m)
		}
		text += lined(fmt.Sprintf("BTS|%d", len(b.Messages)))
	}
	text += lined(fmt.Sprintf("FTS|%d", len(f.Batches)))
	if len(text) > impl.MaxBytes {
		return ""
	}
	return text
}

// checkFileComesBack: a right File comes back from its text.
func checkFileComesBack(t *testing.T, f impl.File) bool {
	t.Helper()
	what := named("promise 19", f)
	text := impl.FileText(f)
	same(t, what+": right", impl.FileRight(f), true)
	same(t, what+": text", text, textByHand(f))
	if text == "" {
		return false
	}
	check(t, what, impl.FileRead(text), fileTold(f))
	same(t, what+": its text again", impl.FileText(impl.FileRead(text).File), text)
	return true
}

func TestPromise19FilesComeBack(t *testing.T) {
	random := rand.New(rand.NewSource(19))
	came := map[bool]int{}
	for n := range 1500 {
		f := randomFile(random, 1+n%10, 1+n%30)
		came[checkFileComesBack(t, f)]++
	}
	if came[true] < 1000 || came[false] < 10 {
		t.Errorf("with a text, and without: %v", came)
	}
	for _, c := range rightFiles() {
		same(t, named("comes back", c.file), checkFileComesBack(t, c.file), true)
	}
	for _, sizes := range sizeCases() {
		same(t, named("comes back", sizes), checkFileComesBack(t, sized(sizes...)), true)
	}
}

// What is read is right, and its text is the one that was read.
func TestPromise19TextsComeBack(t *testing.T) {
	random := rand.New(rand.NewSource(191))
	read := 0
	for range 8000 {
		lines := randomLines(random)
		for range random.Intn(3) {
			lines = harmed(random, lines)
		}
		text := lined(lines...)
		out := impl.FileRead(text)
		if out.Code != impl.OK {
			check(t, named("beside a code", text), out, fileFault(out.Code, out.At))
			continue
		}
		read++
		same(t, named("right", text), impl.FileRight(out.File), true)
		same(t, named("promise 19", text), impl.FileText(out.File), text)
	}
	if read < 1500 {
		t.Errorf("only %d read", read)
	}
}

// checkCut: what comes out of a cut has the same Messages, in order; merged, all are in one Batch.
func checkCut(t *testing.T, f impl.File, many int64) int64 {
	t.Helper()
	what := named("promise 20", many, f)
	cut := impl.Split(f, many)
	check(t, what, cut, cutByHand(f, int(many)))
	if cut.Code != impl.OK {
		return cut.Code
	}
	check(t, what+": in order", impl.AllOf(cut.File), impl.AllOf(f))
	same(t, what+": as many", impl.CountOf(cut.File), impl.CountOf(f))
	same(t, what+": right", impl.FileRight(cut.File), true)
	for _, size := range sizesOf(cut.File) {
		if size > int(many) {
			t.Errorf("%s: %d in one", what, size)
		}
	}
	merged, again := impl.Merge(f), impl.Merge(cut.File)
	check(t, what+": merged", again, merged)
	if merged.Code == impl.OK {
		same(t, what+": one Batch", len(merged.File.Batches), 1)
		check(t, what+": all in it", merged.File.Batches[0], batchOf(f.Batches[0].Id, impl.AllOf(f)...))
		same(t, what+": merged, right", impl.FileRight(merged.File), true)
	}
	return impl.OK
}

func TestPromise20CutAndMerged(t *testing.T) {
	random := rand.New(rand.NewSource(20))
	told, merged := map[int64]int{}, map[int64]int{}
	for n := range 1500 {
		f := randomFile(random, 1+n%10, 1+n%30)
		told[checkCut(t, f, int64(1+random.Intn(1+n%30)))]++
		merged[impl.Merge(f).Code]++
	}
	if told[impl.OK] < 600 || told[impl.ErrFull] < 100 || merged[impl.OK] < 500 || merged[impl.ErrFull] < 50 || merged[impl.ErrNone] < 50 {
		t.Errorf("cut: %v, merged: %v", told, merged)
	}
	for _, c := range rightFiles() {
		for many := int64(1); many <= 30; many += 7 {
			checkCut(t, c.file, many)
		}
	}
}

// inOrderFile has Messages in order of all versions, and some that are not.
func inOrderFile(random *rand.Rand) impl.File {
	f := batched(randomId(random))
	for range random.Intn(4) {
		b := batchOf(randomId(random))
		for range random.Intn(4) {
			m := bridgeMessage(random)
			if random.Intn(8) == 0 {
				m = disturb(random, m)
			}
			m.Marks = usual
			b.Messages = append(b.Messages, m)
		}
		f.Batches = append(f.Batches, b)
	}
	return f
}

func TestBringAllAnyFile(t *testing.T) {
	random := rand.New(rand.NewSource(21))
	told := map[int64]int{}
	for range 1500 {
		f := inOrderFile(random)
		to := int64(random.Intn(5))
		out := impl.BringAll(f, to)
		check(t, named(fmt.Sprint("BringAll to ", to), f), out, broughtAll(f, to))
		told[out.Code]++
		if out.Code == impl.OK {
			same(t, named("right", f), impl.FileRight(out.File), true)
			same(t, named("as many", f), impl.CountOf(out.File), impl.CountOf(f))
		}
	}
	for _, code := range []int64{impl.OK, impl.ErrRange, impl.ErrCarry, impl.ErrSchema} {
		if told[code] < 80 {
			t.Errorf("told: %v", told)
		}
	}
}

// fileCalls: what each call answers for a File, and for a text.
func fileCalls(f impl.File, text string) map[string]any {
	return map[string]any{
		"FileRight":     impl.FileRight(f),
		"FileText":      impl.FileText(f),
		"FileRead":      impl.FileRead(text),
		"CountOf":       impl.CountOf(f),
		"AllOf":         impl.AllOf(f),
		"Split by 1":    impl.Split(f, 1),
		"Split by 2":    impl.Split(f, 2),
		"Split by 30":   impl.Split(f, 30),
		"Split by none": impl.Split(f, 0),
		"Merge":         impl.Merge(f),
		"BringAll to 1": impl.BringAll(f, 1),
		"BringAll to 2": impl.BringAll(f, 2),
		"BringAll to 3": impl.BringAll(f, 3),
		"BringAll to 4": impl.BringAll(f, 4),
	}
}

// roomyFile has the same in lists that have room behind their ends, and in texts of its own.
func roomyFile(f impl.File) impl.File {
	own := impl.File{Id: strings.Clone(f.Id), Batches: make([]impl.Batch, 0, 13)}
	for _, b := range f.Batches {
		fresh := impl.Batch{Id: strings.Clone(b.Id), Messages: make([]impl.Message, 0, len(b.Messages)+3)}
		for _, m := range b.Messages {
			fresh.Messages = append(fresh.Messages, roomyMessage(m))
		}
		own.Batches = append(own.Batches, fresh)
	}
	return own
}

// spareOfFile tells all that stands in a File's lists, also behind their ends.
func spareOfFile(f impl.File) string {
	text := ""
	for _, b := range f.Batches[:cap(f.Batches)] {
		text += shape(b)
		for _, m := range b.Messages[:cap(b.Messages)] {
			text += spareOf(m)
		}
	}
	return text
}

// scribbleFile writes to all lists of a File, also behind their ends.
func scribbleFile(f impl.File) {
	for _, b := range f.Batches {
		scribbleAll(b.Messages)
	}
	batches := f.Batches[:cap(f.Batches)]
	for i := range batches {
		batches[i] = batchOf("scribbled", numbered(i))
	}
}

func scribbleAll(list []impl.Message) {
	for _, m := range list {
		scribble(m)
	}
	list = list[:cap(list)]
	for i := range list {
		list[i] = numbered(i)
	}
}

// memoryFiles: in order and not, of one Batch and of several, without Messages, and one that is not right.
func memoryFiles(t *testing.T) []impl.File {
	long := head251 + "\rPID|1||id~other||Smith&x^John||20240101\rZZZ|a^b&c~d|e"
	odd := bringing(t, []string{long})
	odd.Batches[0].Messages[0].Marks = "@[]_`"
	return []impl.File{
		bringing(t, []string{head23, long}, nil, []string{head27}), bringing(t, []string{long, long, long}), bringing(t), bringing(t, nil), bringing(t, nil, nil), bringing(t, []string{head23, head23 + "\rOBR"}, []string{head251 + "\rSFT|a|b"}), batched("some_id", batchOf("other_id", deepMessage())), odd,
	}
}

func TestBatchApart(t *testing.T) {
	for _, given := range memoryFiles(t) {
		f := roomyFile(given)
		text := strings.Clone(textByHand(f))
		before := spareOfFile(f) + shape(f)
		calls := fileCalls(f, text)
		for name, answer := range calls {
			checkMemory(t, named(name, given), answer, f, text)
			for other, b := range calls {
				if name != other {
					checkMemory(t, named(name+" with "+other, given), answer, b)
				}
			}
		}
		same(t, named("what was given", given), spareOfFile(f)+shape(f), before)
	}
}

// The lists of what was handed in may share memory among them.
func TestBatchListsApart(t *testing.T) {
	m := roomyMessage(readLines(t, head27+"\rNTE|||A\rZZZ|A\rZZZ|A"))
	m.Segments[3] = m.Segments[2]
	messages := []impl.Message{m, m, m}
	f := batched("f", batchOf("b", messages...), batchOf("b", messages[:2]...), batchOf("b", messages...))
	before := shape(f)
	for name, answer := range fileCalls(f, textByHand(f)) {
		checkMemory(t, name, answer, f)
	}
	for name, answer := range fileCalls(batched("f", f.Batches[:2]...), textByHand(f)) {
		checkMemory(t, name, answer, f)
	}
	same(t, "what was given", shape(f), before)
}

// What is written to a File that was handed out is not seen in the one that was handed in, nor the other way round.
func TestBatchWrittenTo(t *testing.T) {
	calls := map[string]func(f impl.File) impl.File{
		"Split by 1":  func(f impl.File) impl.File { return impl.Split(f, 1).File },
		"Split by 2":  func(f impl.File) impl.File { return impl.Split(f, 2).File },
		"Split by 30": func(f impl.File) impl.File { return impl.Split(f, 30).File },
		"Merge":       func(f impl.File) impl.File { return impl.Merge(f).File },
		"BringAll":    func(f impl.File) impl.File { return impl.BringAll(f, 3).File },
		"FileRead":    func(f impl.File) impl.File { return impl.FileRead(impl.FileText(f)).File },
		"AllOf":       func(f impl.File) impl.File { return batched("f", batchOf("b", impl.AllOf(f)...)) },
	}
	for _, given := range memoryFiles(t) {
		for name, call := range calls {
			f := roomyFile(given)
			in := spareOfFile(f)
			out := call(f)
			told := shape(out)
			scribbleFile(out)
			same(t, named("handed in, "+name, given), spareOfFile(f), in)
			out = call(f)
			same(t, named("told again, "+name, given), shape(out), told)
			scribbleFile(f)
			same(t, named("handed out, "+name, given), shape(out), told)
		}
	}
}

// Each Message that was handed out is apart from the others: writing to one leaves those behind it as they are.
func TestBatchAnswersWrittenTo(t *testing.T) {
	m := readLines(t, head251+"\rZZZ|a^b")
	f := batched("f", batchOf("b", m, m), batchOf("c", m))
	for name, batches := range map[string][]impl.Batch{
		"Split":    impl.Split(f, 1).File.Batches,
		"Split 30": impl.Split(f, 30).File.Batches,
		"Merge":    impl.Merge(f).File.Batches,
		"BringAll": impl.BringAll(f, 2).File.Batches,
		"AllOf":    {batchOf("b", impl.AllOf(f)...)},
		"FileRead": impl.FileRead(textByHand(f)).File.Batches,
	} {
		var all []impl.Message
		for _, b := range batches {
			all = append(all, b.Messages...)
		}
		same(t, name+": Messages", len(all), 3)
		for i, one := range all {
			scribble(one)
			for _, other := range all[i+1:] {
				check(t, name, other, m)
			}
		}
	}
}

// Nothing is kept from call to call: the same is told again, whatever was asked between.
func TestBatchKeepsNothing(t *testing.T) {
	f := memoryFiles(t)[0]
	text := textByHand(f)
	calls := fileCalls(f, text)
	for _, other := range memoryFiles(t) {
		fileCalls(other, textByHand(other))
	}
	for _, lines := range [][]string{{fhs}, {fhs, bhs, msh}, {fhs, bhs, msh, "BTS|2"}, {"x"}, crowd(31, "BTS|31")} {
		fileCalls(impl.File{}, lined(lines...))
	}
	if again := fileCalls(f, text); !reflect.DeepEqual(again, calls) {
		t.Errorf("told again: %q, was %q", again, calls)
	}
}
