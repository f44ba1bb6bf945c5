package tests

import (
	"fmt"
	"math"
	"slices"
	"strings"
	"testing"

	"loop.example/g00416/impl"
)

// noMany are numbers of Messages that no Batch is cut into.
func noMany() []int64 {
	return []int64{0, 31, -1, -2, -30, 32, 60, 300, 1<<32 + 1, 1 << 32, 256 + 1, 1<<16 + 1, 1<<40 + 5, math.MaxInt64, math.MinInt64, math.MinInt64 + 1, math.MaxInt64 - 1}
}

// cutByHand is what Split is asked for, of a right File, Message by Message.
func cutByHand(f impl.File, many int) impl.FileOut {
	cut := impl.File{Id: f.Id}
	for _, b := range f.Batches {
		cut.Batches = append(cut.Batches, batchOf(b.Id))
		for i, m := range b.Messages {
			if i > 0 && i%many == 0 {
				cut.Batches = append(cut.Batches, batchOf(b.Id))
			}
			last := &cut.Batches[len(cut.Batches)-1]
			last.Messages = append(last.Messages, m)
		}
	}
	if len(cut.Batches) > 10 {
		return fileFault(impl.ErrFull, 0)
	}
	return fileTold(cut)
}

// sizeCases: how many Messages the Batches of a File have.
func sizeCases() [][]int {
	return [][]int{
		{}, {0}, {1}, {2}, {3}, {9}, {10}, {11}, {29}, {30}, {0, 0}, {1, 0, 1}, {0, 30}, {30, 0}, {3, 4, 5}, {2, 3, 0, 1}, {5, 5}, {5, 6}, {6, 5}, {10, 10}, {15, 15}, {15, 16}, {30, 30}, {30, 30, 30}, {30, 30, 1}, {29, 30, 28},
		{1, 1, 1, 1, 1, 1, 1, 1, 1, 1}, {0, 0, 0, 0, 0, 0, 0, 0, 0, 0}, {0, 0, 0, 0, 0, 0, 0, 0, 0, 2}, {2, 0, 0, 0, 0, 0, 0, 0, 0, 0}, {2, 1, 1, 1, 1, 1, 1, 1, 1}, {3, 1, 1, 1, 1, 1, 1, 1, 1}, {30, 30, 30, 30, 30, 30, 30, 30, 30, 30}, {2, 2, 2, 2, 2}, {2, 2, 2, 2, 3}, {20, 20, 20, 20, 20},
	}
}

func sizesOf(f impl.File) []int {
	var sizes []int
	for _, b := range f.Batches {
		sizes = append(sizes, len(b.Messages))
	}
	return sizes
}

func TestSplit(t *testing.T) {
	for _, sizes := range sizeCases() {
		f := sized(sizes...)
		for many := 1; many <= 30; many++ {
			check(t, fmt.Sprint("Split of ", sizes, " by ", many), impl.Split(f, int64(many)), cutByHand(f, many))
		}
		for _, many := range noMany() {
			check(t, fmt.Sprint("Split of ", sizes, " by ", many), impl.Split(f, many), fileFault(impl.ErrForm, 0))
		}
	}
}

// splitCase: of which sizes Batches are cut out, by so many; none, where there were more than 10.
type splitCase struct {
	sizes []int
	many  int64
	cut   []int
	ids   string
}

func TestSplitSizes(t *testing.T) {
	ones := []int{1, 1, 1, 1, 1, 1, 1, 1, 1, 1}
	for _, c := range []splitCase{
		{[]int{}, 1, []int{}, ""}, {[]int{0}, 1, []int{0}, "b0"}, {[]int{0, 0}, 30, []int{0, 0}, "b0 b1"}, {[]int{2}, 3, []int{2}, "b0"}, {[]int{3}, 3, []int{3}, "b0"}, {[]int{4}, 3, []int{3, 1}, "b0 b0"}, {[]int{6}, 3, []int{3, 3}, "b0 b0"}, {[]int{7}, 3, []int{3, 3, 1}, "b0 b0 b0"},
		{[]int{30}, 30, []int{30}, "b0"}, {[]int{30}, 29, []int{29, 1}, "b0 b0"}, {[]int{30}, 15, []int{15, 15}, "b0 b0"}, {[]int{30, 30}, 30, []int{30, 30}, "b0 b1"},
		{[]int{10}, 1, ones, strings.TrimSpace(strings.Repeat("b0 ", 10))}, {[]int{11}, 1, nil, ""}, {[]int{30}, 3, []int{3, 3, 3, 3, 3, 3, 3, 3, 3, 3}, strings.TrimSpace(strings.Repeat("b0 ", 10))}, {[]int{30}, 2, nil, ""}, {[]int{1, 0, 3}, 2, []int{1, 0, 2, 1}, "b0 b1 b2 b2"},
		{[]int{5, 5}, 1, ones, "b0 b0 b0 b0 b0 b1 b1 b1 b1 b1"}, {[]int{5, 6}, 1, nil, ""}, {[]int{5, 5, 0}, 1, nil, ""}, {[]int{0, 9}, 1, []int{0, 1, 1, 1, 1, 1, 1, 1, 1, 1}, "b0 b1 b1 b1 b1 b1 b1 b1 b1 b1"}, {[]int{0, 10}, 1, nil, ""}, {[]int{0, 0, 0, 0, 0, 0, 0, 0, 0, 2}, 1, nil, ""},
	} {
		what := fmt.Sprint("Split of ", c.sizes, " by ", c.many)
		out := impl.Split(sized(c.sizes...), c.many)
		if c.cut == nil {
			check(t, what, out, fileFault(impl.ErrFull, 0))
			continue
		}
		var ids []string
		for _, b := range out.File.Batches {
			ids = append(ids, b.Id)
		}
		same(t, what+": Ids", strings.Join(ids, " "), c.ids)
		check(t, what+": sizes", sizesOf(out.File), c.cut)
		same(t, what+": Id, At and Code", fmt.Sprint(out.File.Id, out.At, out.Code), "f0 0")
	}
}

func TestMerge(t *testing.T) {
	cases := sizeCases()
	for one := 0; one <= 30; one += 3 {
		for two := range 31 {
			cases = append(cases, []int{one, two}, []int{0, one, 1, two})
		}
	}
	for _, sizes := range cases {
		sum := 0
		for _, size := range sizes {
			sum += size
		}
		want := fileTold(batched("f", batchOf("b0", numberedFrom(0, sum)...)))
		switch {
		case len(sizes) == 0:
			want = fileFault(impl.ErrNone, 0)
		case sum > 30:
			want = fileFault(impl.ErrFull, 0)
		}
		check(t, fmt.Sprint("Merge of ", sizes), impl.Merge(sized(sizes...)), want)
	}
	// The Id of the first Batch, be it the only one without Messages.
	f := batched("f", batchOf("first"), batchOf("other", headed()), batchOf("last", headed()))
	check(t, "Merge", impl.Merge(f), fileTold(batched("f", batchOf("first", headed(), headed()))))
	check(t, "Merge of none", impl.Merge(batched("other")), fileFault(impl.ErrNone, 0))
}

// A File may be cut and merged whatever its text has.
func TestCutLongFiles(t *testing.T) {
	for name, f := range longFiles() {
		for _, many := range []int{1, 2, 30} {
			check(t, fmt.Sprint("Split by ", many, ", ", name), impl.Split(f, int64(many)), cutByHand(f, many))
		}
		var all []impl.Message
		for _, b := range f.Batches {
			all = append(all, b.Messages...)
		}
		want := fileTold(batched("f", batchOf("b", all...)))
		if len(all) > 30 {
			want = fileFault(impl.ErrFull, 0)
		}
		check(t, "Merge, "+name, impl.Merge(f), want)
	}
}

func TestCutRefused(t *testing.T) {
	for name, files := range wrongFiles() {
		for _, f := range files {
			for _, many := range []int64{1, 30, 0, 31, -1} {
				check(t, fmt.Sprint("Split by ", many, ", ", name), impl.Split(f, many), fileFault(impl.ErrForm, 0))
			}
			check(t, "Merge, "+name, impl.Merge(f), fileFault(impl.ErrForm, 0))
			for _, to := range []int64{1, 3, 0, 4} {
				check(t, fmt.Sprint("BringAll to ", to, ", ", name), impl.BringAll(f, to), fileFault(impl.ErrForm, 0))
			}
		}
	}
}

// bringing: a File of Batches of these lines, each a Message.
func bringing(t *testing.T, batches ...[]string) impl.File {
	t.Helper()
	f := impl.File{Id: "f"}
	for i, list := range batches {
		b := batchOf(fmt.Sprint("b", i))
		for _, lines := range list {
			b.Messages = append(b.Messages, readLines(t, lines))
		}
		f.Batches = append(f.Batches, b)
	}
	return f
}

// broughtAll is what BringAll is asked for, of a right File, by what Bring tells of each Message.
func broughtAll(f impl.File, to int64) impl.FileOut {
	out := fileTold(batched(f.Id))
	at := int64(0)
	for _, b := range f.Batches {
		fresh := batchOf(b.Id)
		for _, m := range b.Messages {
			brought := impl.Bring(m, to)
			if brought.Code != impl.OK {
				return fileFault(brought.Code, at)
			}
			fresh.Messages = append(fresh.Messages, brought.Message)
			at++
		}
		out.File.Batches = append(out.File.Batches, fresh)
	}
	return out
}

func TestBringAll(t *testing.T) {
	for from := int64(1); from <= 3; from++ {
		for to := int64(1); to <= 3; to++ {
			f, want := impl.File{Id: "some_9"}, impl.File{Id: "some_9"}
			for i, lines := range carriedLines() {
				id := fmt.Sprint("b", i/3)
				if i%3 == 0 {
					f.Batches, want.Batches = append(f.Batches, batchOf(id)), append(want.Batches, batchOf(id))
				}
				last := len(f.Batches) - 1
				f.Batches[last].Messages = append(f.Batches[last].Messages, readLines(t, spelt(lines, "ADT^A01", from)))
				want.Batches[last].Messages = append(want.Batches[last].Messages, readLines(t, spelt(lines, "ADT^A01", to)))
			}
			check(t, fmt.Sprint("BringAll from ", from, " to ", to), impl.BringAll(f, to), fileTold(want))
		}
	}
	mixed := bringing(t, []string{head23}, nil, []string{head27, head251}, nil)
	for to, lines := range map[int64]string{1: head23, 2: head251, 3: head27} {
		check(t, fmt.Sprint("BringAll of all versions to ", to), impl.BringAll(mixed, to), fileTold(bringing(t, []string{lines}, nil, []string{lines, lines}, nil)))
	}
}

// Without Messages nothing is asked for a version.
func TestBringAllOfNone(t *testing.T) {
	for _, f := range []impl.File{batched("f"), batched("f", batchOf("b")), batched("f", batchOf("b"), batchOf("b"), batchOf("c")), batched("f", manyBatches(batchOf("b"), 10)...)} {
		for _, to := range toNumbers() {
			check(t, fmt.Sprint("BringAll to ", to), impl.BringAll(f, to), fileTold(f))
		}
	}
}

func TestBringAllToNoVersion(t *testing.T) {
	for _, to := range append(noVersions(), 0, 4, -1) {
		for _, f := range []impl.File{bringing(t, []string{head23}), bringing(t, []string{head27, head23}), bringing(t, nil, []string{head251}), bringing(t, nil, nil, []string{head23 + "\rZZZ", head23 + "\rOBR"})} {
			check(t, fmt.Sprint("BringAll to ", to), impl.BringAll(f, to), fileFault(impl.ErrRange, 0))
		}
		check(t, fmt.Sprint("out of order, to ", to), impl.BringAll(bringing(t, []string{head23 + "\rOBR", head23}), to), fileFault(impl.ErrSchema, 0))
	}
}

// The first that Bring tells a code of: in any Batch, at any place.
func TestBringAllFaults(t *testing.T) {
	carry, wrong := head251+"\rSFT|a|b", head23+"\rOBR"
	for _, c := range []struct {
		batches [][]string
		to      int64
		code    int64
		at      int64
	}{
		{[][]string{{carry}}, 1, impl.ErrCarry, 0}, {[][]string{{wrong}}, 1, impl.ErrSchema, 0}, {[][]string{{carry, head23, head23}}, 1, impl.ErrCarry, 0}, {[][]string{{head23, carry, head23}}, 1, impl.ErrCarry, 1}, {[][]string{{head23, head27, carry}}, 1, impl.ErrCarry, 2},
		{[][]string{{head23, head23}, {head23, carry, wrong}, {wrong}}, 1, impl.ErrCarry, 3}, {[][]string{{head23, head23}, {head23, wrong, carry}, {carry}}, 1, impl.ErrSchema, 3}, {[][]string{{}, {}, {head23}, {}, {carry}}, 1, impl.ErrCarry, 1}, {[][]string{{}, {carry}}, 1, impl.ErrCarry, 0}, {[][]string{{head27}, {head251, head23}, {wrong, head23}}, 3, impl.ErrSchema, 3},
		{[][]string{{carry, carry}, {wrong}}, 2, impl.ErrSchema, 2}, {[][]string{{head27 + "\rPRT||A", carry}, {wrong}}, 3, impl.ErrSchema, 2}, {[][]string{{carry, head27 + "\rPRT||A"}, {wrong}}, 2, impl.ErrCarry, 1}, {[][]string{{wrong}, {wrong}}, 9, impl.ErrSchema, 0}, {[][]string{{head23, wrong}, {wrong}}, 9, impl.ErrRange, 0}, {[][]string{slices.Repeat([]string{head23}, 30), slices.Repeat([]string{head23}, 30), append(slices.Repeat([]string{head23}, 29), wrong)}, 3, impl.ErrSchema, 89},
	} {
		f := bringing(t, c.batches...)
		check(t, fmt.Sprint("BringAll to ", c.to, " of ", c.batches), impl.BringAll(f, c.to), fileFault(c.code, c.at))
		same(t, "right", impl.FileRight(f), true)
	}
	for _, c := range messageCases() {
		if c.path != "" && c.path != "none" {
			f := bringing(t, []string{head23}, []string{head27, c.lines, head23})
			for _, to := range []int64{1, 2, 3} {
				check(t, named("BringAll", c.lines), impl.BringAll(f, to), fileFault(impl.ErrSchema, 2))
			}
		}
	}
	for _, c := range carryCases() {
		f := bringing(t, []string{head23}, []string{head27, versionHead(c.version) + c.behind, head23})
		check(t, named("BringAll", c.behind), impl.BringAll(f, c.version-1), fileFault(impl.ErrCarry, 2))
	}
}

// A Message that grows beyond MaxBytes is brought like any other.
func TestBringAllLong(t *testing.T) {
	f := batched("f", batchOf("b", longMessage(t, impl.MaxBytes), longMessage(t, impl.MaxBytes+1)), batchOf("c", longMessage(t, 500)))
	for to := int64(1); to <= 3; to++ {
		want := batched("f", batchOf("b", turned(f.Batches[0].Messages[0], int(to)), turned(f.Batches[0].Messages[1], int(to))), batchOf("c", turned(f.Batches[1].Messages[0], int(to))))
		check(t, fmt.Sprint("BringAll to ", to), impl.BringAll(f, to), fileTold(want))
	}
}
