package tests

import (
	"fmt"
	"slices"
	"strings"
	"testing"

	"loop.example/g00416/impl"
)

func batchOf(id string, messages ...impl.Message) impl.Batch {
	return impl.Batch{Id: id, Messages: messages}
}

func batched(id string, batches ...impl.Batch) impl.File {
	return impl.File{Id: id, Batches: batches}
}

func fileTold(f impl.File) impl.FileOut            { return impl.FileOut{File: f} }
func fileFault(code int64, at int64) impl.FileOut  { return impl.FileOut{At: at, Code: code} }
func numbered(n int) impl.Message                  { return messageOf(segmentOf("MSH", oneSub(fmt.Sprint(n)))) }
func manyBatches(b impl.Batch, n int) []impl.Batch { return slices.Repeat([]impl.Batch{b}, n) }
func twenty(text string) string                    { return text + strings.Repeat("_", 20-len(text)) }

// numberedFrom: so many Messages, each of which tells its number.
func numberedFrom(from int, many int) []impl.Message {
	var list []impl.Message
	for n := range many {
		list = append(list, numbered(from+n))
	}
	return list
}

// sized: a File with Batches of so many Messages, numbered through.
func sized(sizes ...int) impl.File {
	f := batched("f")
	from := 0
	for i, size := range sizes {
		f.Batches = append(f.Batches, batchOf(fmt.Sprint("b", i), numberedFrom(from, size)...))
		from += size
	}
	return f
}

// lined is the text of these lines, each with its 13.
func lined(lines ...string) string {
	if len(lines) == 0 {
		return ""
	}
	return strings.Join(lines, "\r") + "\r"
}

// The lines of a file that has one Batch with one Message.
const (
	fhs = "FHS" + usual + "|f"
	bhs = "BHS" + usual + "|b"
	msh = head + "|A"
)

// textFile is a right File, and its text.
type textFile struct {
	file impl.File
	text string
}

// rightFiles stand at the edges that chapter 9 names.
func rightFiles() map[string]textFile {
	pid, near := segmentOf("PID", oneSub("1")), segmentOf("FHT", oneSub("FHS"), fieldOf(repOf(compOf("BTS|1")), repOf(compOf("FTS"), compOf("BHS"))))
	alike := batchOf("b", headed(), headed())
	list := map[string]textFile{
		"no Batch":                 {batched("f"), "FHS|^~\\&|f\rFTS|0\r"},
		"a Batch without Messages": {batched("f", batchOf("b")), "FHS|^~\\&|f\rBHS|^~\\&|b\rBTS|0\rFTS|1\r"},
		"one Message":              {batched("f", batchOf("b", headed())), "FHS|^~\\&|f\rBHS|^~\\&|b\rMSH|^~\\&|A\rBTS|1\rFTS|1\r"},
		"two Messages":             {batched("f", batchOf("b", headed(pid), headed(segmentOf("ZZZ")))), lined(fhs, bhs, msh, "PID|1", msh, "ZZZ", "BTS|2", "FTS|1")},
		"all alike":                {batched("b", alike, alike), lined("FHS|^~\\&|b", bhs, msh, msh, "BTS|2", bhs, msh, msh, "BTS|2", "FTS|2")},
		"one of three is empty":    {batched("f", batchOf("b", headed()), batchOf("c"), batchOf("d", headed())), lined(fhs, bhs, msh, "BTS|1", "BHS|^~\\&|c", "BTS|0", "BHS|^~\\&|d", msh, "BTS|1", "FTS|3")},
		"10 Batches":               {batched("f", manyBatches(batchOf("b"), 10)...), lined(fhs) + strings.Repeat(lined(bhs, "BTS|0"), 10) + lined("FTS|10")},
		"30 Messages":              {batched("f", batchOf("b", slices.Repeat([]impl.Message{headed()}, 30)...)), lined(fhs, bhs) + strings.Repeat(lined(msh), 30) + lined("BTS|30", "FTS|1")},
		"Ids of 20 bytes":          {batched(twenty("f"), batchOf(twenty("b9"))), lined("FHS|^~\\&|f___________________", "BHS|^~\\&|b9__________________", "BTS|0", "FTS|1")},
		"Ids of one byte":          {batched("z", batchOf("a")), lined("FHS|^~\\&|z", "BHS|^~\\&|a", "BTS|0", "FTS|1")},
		"20 Segments":              {batched("f", batchOf("b", headed(manySegments(pid, 19)...))), lined(fhs, bhs, msh) + strings.Repeat(lined("PID|1"), 19) + lined("BTS|1", "FTS|1")},
		"Names that are near":      {batched("f", batchOf("b", headed(near, segmentOf("BHZ"), segmentOf("B1S"), segmentOf("FTT"), segmentOf("FSH")))), lined(fhs, bhs, msh, `FHT|FHS|BTS\F\1~FTS^BHS`, "BHZ", "B1S", "FTT", "FSH", "BTS|1", "FTS|1")},
		"a Message of all kinds":   {batched("f", batchOf("b", deepMessage())), lined(fhs, bhs) + impl.MessageText(deepMessage()) + lined("BTS|1", "FTS|1")},
		"MaxBytes":                 fullFile(impl.MaxBytes),
		"one byte less":            fullFile(impl.MaxBytes - 1),
		"MaxBytes, of two Batches": {batched("f", batchOf("b"), batchOf("c", filledMessage(impl.MaxBytes-51))), lined(fhs, bhs, "BTS|0", "BHS|^~\\&|c") + filledText(impl.MaxBytes-51) + lined("BTS|1", "FTS|2")},
	}
	all := textFile{file: batched("f"), text: lined(fhs)}
	for i := range 10 {
		all.file.Batches = append(all.file.Batches, batchOf("b", numberedFrom(30*i, 30)...))
		all.text += lined(bhs)
		for n := range 30 {
			all.text += lined(head + fmt.Sprint("|", 30*i+n))
		}
		all.text += lined("BTS|30")
	}
	all.text += lined("FTS|10")
	list["10 Batches of 30 Messages"] = all
	return list
}

// fullFile: two Messages in a File whose text has so many bytes.
func fullFile(bytes int) textFile {
	ahead, behind := lined(fhs, bhs, msh), lined("BTS|2", "FTS|1")
	left := bytes - len(ahead+behind)
	return textFile{batched("f", batchOf("b", headed(), filledMessage(left))), ahead + filledText(left) + behind}
}

// noIds: texts that are no name.
func noIds() []string {
	return []string{"", twenty("f") + "_", "F", "f1A", "9", "_", "9f", "_f", "f ", " f", "f-", "f|", "f\r", "f\n", "f\x00", "fé", "f~", strings.Repeat("f", impl.MaxBytes), huge()}
}

// around: a File with this as its only, first, last and middle Batch.
func around(b impl.Batch) []impl.File {
	right := batchOf("b", headed())
	return []impl.File{batched("f", b), batched("f", b, right), batched("f", right, b), batched("f", right, b, batchOf("b"))}
}

// holding: Files in which this Message stands, at each place.
func holding(m impl.Message) []impl.File {
	var list []impl.File
	for _, messages := range [][]impl.Message{{m}, {m, headed()}, {headed(), m}, {headed(), m, headed()}} {
		list = append(list, around(batchOf("b", messages...))...)
	}
	return list
}

// strayMessages are right, but none of a File.
func strayMessages() map[string]impl.Message {
	list := map[string]impl.Message{}
	for _, marks := range rightMarks() {
		if marks != usual {
			list[named("Marks", marks)] = impl.Message{Marks: marks, Segments: headed().Segments}
		}
	}
	for _, marks := range []string{`|^~\!`, `!^~\&`, `|^~!&`, `|~^\&`, `|^~&\`} {
		list[named("Marks that are near", marks)] = impl.Message{Marks: marks, Segments: headed().Segments}
	}
	pid := segmentOf("PID", oneSub("1"))
	for _, name := range []string{"FHS", "BHS", "BTS", "FTS"} {
		stray := segmentOf(name, oneSub("1"))
		list[name+", alone behind MSH"] = headed(stray)
		list[name+", the second one"] = headed(stray, pid)
		list[name+", the last one"] = headed(pid, stray)
		list[name+", the last of 20"] = headed(append(manySegments(pid, 18), stray)...)
		list[name+", without Fields"] = headed(segmentOf(name))
	}
	return list
}

// wrongFiles stand a step beyond those edges.
func wrongFiles() map[string][]impl.File {
	list := map[string][]impl.File{
		"nothing":           {{}},
		"11 Batches":        {sized(make([]int, 11)...), batched("f", manyBatches(batchOf("b", headed()), 11)...)},
		"more than a list":  {batched("f", manyBatches(batchOf("b"), impl.MaxList+1)...)},
		"31 Messages":       around(batchOf("b", numberedFrom(0, 31)...)),
		"too many Messages": around(batchOf("b", slices.Repeat([]impl.Message{headed()}, impl.MaxList+1)...)),
		"31 in the last":    {sized(30, 30, 31), sized(0, 0, 31), sized(1, 1, 1, 1, 1, 1, 1, 1, 1, 31)},
	}
	for _, id := range noIds() {
		list[named("Id", id)] = []impl.File{batched(id), batched(id, batchOf("b", headed()))}
		list[named("Id of a Batch", id)] = append(around(batchOf(id)), around(batchOf(id, headed()))...)
	}
	for name, m := range wrongMessages() {
		list["a wrong Message: "+name] = holding(m)
	}
	for name, m := range strayMessages() {
		list["a stray Message: "+name] = holding(m)
	}
	return list
}

func TestFileRight(t *testing.T) {
	for name, c := range rightFiles() {
		same(t, name, impl.FileRight(c.file), true)
	}
	for name, files := range wrongFiles() {
		for _, f := range files {
			same(t, name, impl.FileRight(f), false)
		}
	}
	for name, m := range strayMessages() {
		same(t, name+": the Message alone", impl.MessageRight(m), true)
	}
}

// A File is right whatever its text has.
func longFiles() map[string]impl.File {
	half := filledMessage(impl.MaxBytes / 2)
	list := map[string]impl.File{
		"one byte too many":            fullFile(impl.MaxBytes + 1).file,
		"two bytes too many":           fullFile(impl.MaxBytes + 2).file,
		"a Message of MaxBytes":        batched("f", batchOf("b", filledMessage(impl.MaxBytes))),
		"a Message of one more":        batched("f", batchOf("b", filledMessage(impl.MaxBytes+1))),
		"the last Message of one more": batched("f", batchOf("b", headed()), batchOf("c", headed(), filledMessage(impl.MaxBytes+1))),
		"two halves":                   batched("f", batchOf("b", half, half)),
		"two halves in two":            batched("f", batchOf("b", half), batchOf("c", half)),
		"as many as may be":            batched("f", manyBatches(batchOf("b", slices.Repeat([]impl.Message{filledMessage(200)}, 30)...), 10)...),
	}
	return list
}

func TestFileText(t *testing.T) {
	for name, c := range rightFiles() {
		same(t, name, impl.FileText(c.file), c.text)
	}
	for name, f := range longFiles() {
		same(t, name+": right", impl.FileRight(f), true)
		same(t, name, impl.FileText(f), "")
	}
	for name, files := range wrongFiles() {
		for _, f := range files {
			same(t, name, impl.FileText(f), "")
		}
	}
	same(t, "bytes", len(rightFiles()["MaxBytes"].text), impl.MaxBytes)
	same(t, "bytes, of two Batches", len(rightFiles()["MaxBytes, of two Batches"].text), impl.MaxBytes)
}

// Each size about MaxBytes, of the last Message and of the first one.
func TestFileTextNearMaxBytes(t *testing.T) {
	for bytes := impl.MaxBytes - 20; bytes <= impl.MaxBytes+20; bytes++ {
		c := fullFile(bytes)
		same(t, "bytes", len(c.text), bytes)
		if bytes > impl.MaxBytes {
			c.text = ""
		}
		same(t, fmt.Sprint("FileText of ", bytes), impl.FileText(c.file), c.text)
		messages := c.file.Batches[0].Messages
		slices.Reverse(messages)
		same(t, fmt.Sprint("turned, of ", bytes), len(impl.FileText(c.file)), len(c.text))
	}
}

func TestCountOf(t *testing.T) {
	for sum, f := range map[int64]impl.File{
		0: sized(), 1: sized(1), 2: sized(0, 2), 3: sized(1, 1, 0, 1), 30: sized(30), 31: sized(30, 1), 7: sized(0, 0, 7, 0), 300: sized(30, 30, 30, 30, 30, 30, 30, 30, 30, 30),
	} {
		same(t, fmt.Sprint("CountOf, ", sum), impl.CountOf(f), sum)
	}
	same(t, "without Messages", impl.CountOf(sized(make([]int, 10)...)), 0)
	for name, f := range longFiles() {
		want := 0
		for _, b := range f.Batches {
			want += len(b.Messages)
		}
		same(t, "CountOf, "+name, impl.CountOf(f), int64(want))
	}
	for name, files := range wrongFiles() {
		for _, f := range files {
			same(t, "CountOf, "+name, impl.CountOf(f), 0)
		}
	}
}

func TestAllOf(t *testing.T) {
	for _, sizes := range [][]int{{}, {0}, {0, 0}, {1}, {2, 3}, {0, 4, 0, 1}, {30}, {30, 30, 1}, {30, 30, 30, 30, 30, 30, 30, 30, 30, 30}} {
		sum := 0
		for _, size := range sizes {
			sum += size
		}
		check(t, fmt.Sprint("AllOf ", sizes), impl.AllOf(sized(sizes...)), numberedFrom(0, sum))
	}
	for name, c := range rightFiles() {
		var want []impl.Message
		for _, b := range c.file.Batches {
			want = append(want, b.Messages...)
		}
		check(t, "AllOf, "+name, impl.AllOf(c.file), want)
	}
	for name, files := range wrongFiles() {
		for _, f := range files {
			same(t, "AllOf, "+name, len(impl.AllOf(f)), 0)
		}
	}
}
