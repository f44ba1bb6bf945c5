package tests

import (
	"fmt"
	"slices"
	"strings"
	"testing"

	"loop.example/g00416/impl"
)

func engineFault(code int64, at int64, path string) impl.EngineOut {
	return impl.EngineOut{At: at, Path: path, Code: code}
}

// bringText is the text of a file of Batches of these lines, each a Message.
func bringText(t *testing.T, batches ...[]string) string {
	t.Helper()
	return textByHand(bringing(t, batches...))
}

// faultyAt is what is wrong with the Messages of a File, one by one, as look tells it.
func faultyAt(f impl.File, look func(m impl.Message) (string, int64)) impl.EngineOut {
	at := int64(0)
	for _, b := range f.Batches {
		for _, m := range b.Messages {
			if path, code := look(m); code != impl.OK {
				return engineFault(code, at, path)
			}
			at++
		}
	}
	return impl.EngineOut{}
}

// readByHand: a text of too many bytes is refused ahead of all.
func readByHand(text string) impl.FileOut {
	if len(text) > impl.MaxBytes {
		return fileFault(impl.ErrSize, 0)
	}
	return fileByHand(text)
}

// bringByHand is what Bring is asked for, of any right m.
func bringByHand(m impl.Message, to int64) impl.BridgeOut {
	if fault := findingByTable(m); fault.Code != impl.OK {
		return bridgeFault(fault.Code, fault.Path)
	}
	return broughtByHand(m, int(to))
}

// translatedByHand is what Translate is asked for, by the table and by hand.
func translatedByHand(text string, to int64) impl.EngineOut {
	read := readByHand(text)
	if read.Code != impl.OK {
		return engineFault(read.Code, read.At, "")
	}
	if to < 1 || to > 3 {
		return engineFault(impl.ErrRange, 0, "")
	}
	out := faultyAt(read.File, func(m impl.Message) (string, int64) {
		brought := bringByHand(m, to)
		return brought.Path, brought.Code
	})
	if out.Code != impl.OK {
		return out
	}
	f := batched(read.File.Id)
	for _, b := range read.File.Batches {
		fresh := batchOf(b.Id)
		for _, m := range b.Messages {
			fresh.Messages = append(fresh.Messages, bringByHand(m, to).Message)
		}
		f.Batches = append(f.Batches, fresh)
	}
	out.Text = textByHand(f)
	if out.Text == "" {
		return engineFault(impl.ErrFull, 0, "")
	}
	return out
}

// firstFaultByHand is what FirstFault is asked for, by the table alone.
func firstFaultByHand(text string) impl.EngineOut {
	read := readByHand(text)
	if read.Code != impl.OK {
		return engineFault(read.Code, read.At, "")
	}
	return faultyAt(read.File, func(m impl.Message) (string, int64) {
		fault := findingByTable(m)
		return fault.Path, fault.Code
	})
}

func checkTranslate(t *testing.T, text string, to int64, want impl.EngineOut) {
	t.Helper()
	check(t, named(fmt.Sprint("Translate to ", to), text), impl.Translate(text, to), want)
	check(t, named(fmt.Sprint("by hand, to ", to), text), translatedByHand(text, to), want)
}

func checkFirstFault(t *testing.T, text string, want impl.EngineOut) {
	t.Helper()
	check(t, named("FirstFault", text), impl.FirstFault(text), want)
	check(t, named("by hand", text), firstFaultByHand(text), want)
}

// wrongFileTexts are no file's, each with what FileRead tells; all codes that it has are among them.
func wrongFileTexts() map[string]impl.FileOut {
	pid, bad := "PID|1", msh+"|"
	many := crowd(31, "BTS|31", "FTS|2")
	batches := slices.Concat([]string{fhs}, slices.Repeat([]string{bhs, "BTS|0"}, 11), []string{"FTS|11"})
	return map[string]impl.FileOut{
		"":  fileFault(impl.ErrSyntax, 0),
		"x": fileFault(impl.ErrSyntax, 0),
		lined(fhs, bhs, head23, "BTS|1", "FTS|1") + "x":        fileFault(impl.ErrSyntax, 5),
		lined(fhs, bhs, head23, "BTS|1") + "FTS|1":             fileFault(impl.ErrSyntax, 4),
		lined(fhs, bhs, head23, "BTS|1"):                       fileFault(impl.ErrSyntax, 4),
		lined(fhs, bhs, head23, "FTS|1"):                       fileFault(impl.ErrSyntax, 4),
		lined("FHS|f", bhs, head23, "BTS|1", "FTS|1"):          fileFault(impl.ErrSyntax, 0),
		lined(fhs, bhs+"B", head23, "BTS|1", "FTS|1"):          fileFault(impl.ErrSyntax, 1),
		lined(fhs, bhs, head23, "BTS|x", "FTS|1"):              fileFault(impl.ErrSyntax, 3),
		lined(fhs, bhs, head23, "BTS|2", "FTS|1"):              fileFault(impl.ErrCount, 3),
		lined(fhs, bhs, head23, "BTS|1", "FTS|2"):              fileFault(impl.ErrCount, 4),
		lined(fhs, bhs, head23, pid, "BTS|1", "FTS|0"):         fileFault(impl.ErrCount, 5),
		lined(fhs, bhs, bad, "BTS|1", "FTS|1"):                 fileFault(impl.ErrSchema, 2),
		lined(fhs, bhs, head23, bad, "BTS|2", "FTS|1"):         fileFault(impl.ErrSchema, 3),
		lined(fhs, bhs, head23, "FTS|1", "BTS|1", "FTS|1"):     fileFault(impl.ErrSchema, 2),
		lined(fhs, bhs, "MSH@[]_`@A", "BTS|1", "FTS|1"):        fileFault(impl.ErrSchema, 2),
		lined(fhs, bhs, head23+"\rOBR", bad, "BTS|2", "FTS|1"): fileFault(impl.ErrSchema, 4),
		lined(many...):                     fileFault(impl.ErrFull, 66),
		lined(batches...):                  fileFault(impl.ErrFull, 21),
		huge():                             fileFault(impl.ErrSize, 0),
		fullFileText(impl.MaxBytes + 1):    fileFault(impl.ErrSize, 0),
		strings.Repeat("x", impl.MaxBytes): fileFault(impl.ErrSyntax, 0),
		lined(fhs, bhs, head23, "BTS|1", "FTS|1", fhs):              fileFault(impl.ErrSyntax, 5),
		lined(fhs, bhs, head23+"\rOBR", "BTS|1", "FTS|0"):           fileFault(impl.ErrCount, 5),
		lined(fhs, bhs, head23+"|x", head251+"\rSFT", "BTS|2") + "": fileFault(impl.ErrSyntax, 6),
	}
}

// What FileRead tells is told ahead of a version that is none, and of what is wrong with a Message.
func TestEngineFileFaults(t *testing.T) {
	codes := map[int64]int{}
	for text, fault := range wrongFileTexts() {
		codes[fault.Code]++
		check(t, named("FileRead", text), impl.FileRead(text), fault)
		checkFirstFault(t, text, engineFault(fault.Code, fault.At, ""))
		for _, to := range toNumbers() {
			checkTranslate(t, text, to, engineFault(fault.Code, fault.At, ""))
		}
	}
	for _, code := range []int64{impl.ErrSyntax, impl.ErrCount, impl.ErrSchema, impl.ErrFull, impl.ErrSize} {
		if codes[code] < 2 {
			t.Errorf("codes: %v", codes)
		}
	}
}

// A version that is none is told ahead of what is wrong with a Message, and also where there is none.
func TestTranslateToNoVersion(t *testing.T) {
	texts := []string{
		bringText(t), bringText(t, nil), bringText(t, nil, nil), bringText(t, []string{head23}), bringText(t, []string{head27, head251}, []string{head23}),
		bringText(t, []string{head23 + "\rOBR"}), bringText(t, []string{head251 + "\rSFT|a|b", head27 + "\rPRT||A"}), fullText(t, impl.MaxBytes),
	}
	for _, text := range texts {
		for _, to := range noVersions() {
			checkTranslate(t, text, to, engineFault(impl.ErrRange, 0, ""))
		}
	}
}

// Without a Message there is none that is wrong, and nothing to bring.
func TestEngineWithoutMessages(t *testing.T) {
	texts := []string{bringText(t), bringText(t, nil), bringText(t, nil, nil, nil), textByHand(batched(twenty("f"), manyBatches(batchOf(twenty("b")), 10)...))}
	for _, text := range texts {
		for to := int64(1); to <= 3; to++ {
			checkTranslate(t, text, to, impl.EngineOut{Text: text})
		}
		checkFirstFault(t, text, impl.EngineOut{})
	}
}

// To the version that all have, one and two up, one and two down, and from all of them to one.
func TestTranslate(t *testing.T) {
	spell := func(from int64, to int64) (string, string) {
		var given, want [][]string
		for i, lines := range carriedLines() {
			if i%3 == 0 {
				given, want = append(given, nil), append(want, nil)
			}
			given[i/3] = append(given[i/3], spelt(lines, "ADT^A01", from))
			want[i/3] = append(want[i/3], spelt(lines, "ADT^A01", to))
		}
		return bringText(t, given...), bringText(t, want...)
	}
	for from := int64(1); from <= 3; from++ {
		for to := int64(1); to <= 3; to++ {
			given, want := spell(from, to)
			checkTranslate(t, given, to, impl.EngineOut{Text: want})
			checkFirstFault(t, given, impl.EngineOut{})
			check(t, "brought again", impl.Translate(want, to), impl.EngineOut{Text: want})
		}
	}
	mixed := bringText(t, []string{head23, head27}, nil, []string{head251, head23}, nil)
	for to, lines := range map[int64]string{1: head23, 2: head251, 3: head27} {
		checkTranslate(t, mixed, to, impl.EngineOut{Text: bringText(t, []string{lines, lines}, nil, []string{lines, lines}, nil)})
	}
	checkFirstFault(t, mixed, impl.EngineOut{})
}

// stopCase: a file of these Messages, and where one on its way to a version is not brought over.
type stopCase struct {
	batches [][]string
	to      int64
	at      int64
	path    string
	code    int64
}

func stopCases() []stopCase {
	carry, wrong, third := head251+"\rSFT|a|b", head23+"\rNTE\rOBR", head27+"\rPV1||I\rPRT||A"
	plenty := slices.Repeat([]string{head23}, 30)
	return []stopCase{
		// The only one, the first, a middle and the last one.
		{[][]string{{carry}}, 1, 0, "SFT[1]", impl.ErrCarry}, {[][]string{{wrong}}, 1, 0, "OBR[1]", impl.ErrSchema}, {[][]string{{carry, head23, head23}}, 1, 0, "SFT[1]", impl.ErrCarry}, {[][]string{{head23, carry, head23}}, 1, 1, "SFT[1]", impl.ErrCarry}, {[][]string{{head27, head23, carry}}, 1, 2, "SFT[1]", impl.ErrCarry},
		{[][]string{{wrong, head23, head23}}, 3, 0, "OBR[1]", impl.ErrSchema}, {[][]string{{head27, wrong, head23}}, 2, 1, "OBR[1]", impl.ErrSchema}, {[][]string{{head23, head251, wrong}}, 1, 2, "OBR[1]", impl.ErrSchema},
		// Counted through all Batches, those without Messages among them.
		{[][]string{{head23, head23}, {wrong, head23}}, 2, 2, "OBR[1]", impl.ErrSchema}, {[][]string{{head23, head23}, {head23, wrong}}, 2, 3, "OBR[1]", impl.ErrSchema}, {[][]string{{}, {}, {head23}, {}, {carry}}, 1, 1, "SFT[1]", impl.ErrCarry}, {[][]string{{}, {carry}}, 1, 0, "SFT[1]", impl.ErrCarry}, {[][]string{{head23}, {head23}, {head23}, {head23, third}, {}}, 2, 4, "PRT[1]", impl.ErrCarry},
		{[][]string{plenty, plenty, append(slices.Clone(plenty[1:]), wrong)}, 3, 89, "OBR[1]", impl.ErrSchema}, {[][]string{plenty, {carry}, plenty}, 1, 30, "SFT[1]", impl.ErrCarry},
		// Of several the first, whatever they are.
		{[][]string{{head23, head23}, {head23, carry, wrong}, {wrong}}, 1, 3, "SFT[1]", impl.ErrCarry}, {[][]string{{head23, head23}, {head23, wrong, carry}, {carry}}, 1, 3, "OBR[1]", impl.ErrSchema}, {[][]string{{carry, carry}, {wrong}}, 2, 2, "OBR[1]", impl.ErrSchema}, {[][]string{{third, carry}, {wrong}}, 3, 2, "OBR[1]", impl.ErrSchema}, {[][]string{{carry, third}, {wrong}}, 2, 1, "PRT[1]", impl.ErrCarry}, {[][]string{{third, third}}, 1, 0, "PRT[1]", impl.ErrCarry}, {[][]string{{wrong, wrong}, {wrong}}, 1, 0, "OBR[1]", impl.ErrSchema},
		// In the second step of two.
		{[][]string{{head23}, {head27 + "\rPV1||I\rPV1||A"}}, 1, 1, "PV1[2]-2", impl.ErrCarry}, {[][]string{{head23, head27 + "||||||A"}}, 1, 1, "MSH-18", impl.ErrCarry},
		// No version, which is no fault of the form.
		{[][]string{{head23, `MSH|^~\&|A`}}, 1, 1, "MSH-12", impl.ErrSchema}, {[][]string{{`MSH|^~\&|A||||20240101||ADT^A01|1||2.4`}, {head23}}, 3, 0, "MSH-12", impl.ErrSchema},
	}
}

// Nothing is told beside the code but the number and the Path of the first that is not brought over.
func TestTranslateStops(t *testing.T) {
	for _, c := range stopCases() {
		text := bringText(t, c.batches...)
		checkTranslate(t, text, c.to, engineFault(c.code, c.at, c.path))
	}
	for _, c := range messageCases() {
		if c.path != "" && c.path != "none" {
			text := bringText(t, []string{head23, head251}, []string{c.lines, head23})
			for to := int64(1); to <= 3; to++ {
				checkTranslate(t, text, to, engineFault(impl.ErrSchema, 2, c.path))
			}
		}
	}
	for _, c := range carryCases() {
		text := bringText(t, []string{head23}, []string{head27, versionHead(c.version) + c.behind}, []string{head23})
		checkTranslate(t, text, c.version-1, engineFault(impl.ErrCarry, 2, c.path))
		checkTranslate(t, text, 1, engineFault(impl.ErrCarry, 2, c.path))
		same(t, named("to its own", c.behind), impl.Translate(text, c.version).Code, impl.OK)
	}
}

// fullText: a file of a Message of 2.3 whose text has so many bytes.
func fullText(t *testing.T, bytes int) string {
	t.Helper()
	text := textByHand(batched("f", batchOf("b", longMessage(t, bytes-len(lined(fhs, bhs, "BTS|1", "FTS|1"))))))
	if len(text) != bytes {
		t.Fatalf("%d bytes, not %d", len(text), bytes)
	}
	return text
}

// A text may fit in, and what comes out of it not.
func TestTranslateNearMaxBytes(t *testing.T) {
	grown := len(head251) - len(head23)
	for bytes := impl.MaxBytes - 2*grown; bytes <= impl.MaxBytes; bytes++ {
		text := fullText(t, bytes)
		checkFirstFault(t, text, impl.EngineOut{})
		checkTranslate(t, text, 1, impl.EngineOut{Text: text})
		want := engineFault(impl.ErrFull, 0, "")
		if bytes+grown <= impl.MaxBytes {
			want = impl.EngineOut{Text: strings.Replace(text, head23, head251, 1)}
			same(t, "bytes", len(want.Text), bytes+grown)
			checkTranslate(t, want.Text, 1, impl.EngineOut{Text: text})
		}
		checkTranslate(t, text, 2, want)
	}
	// Of two up the second step makes it shorter again.
	shrunk := len(head27) - len(head23)
	for bytes := impl.MaxBytes - 2*grown; bytes <= impl.MaxBytes; bytes++ {
		text := fullText(t, bytes)
		want := engineFault(impl.ErrFull, 0, "")
		if bytes+shrunk <= impl.MaxBytes {
			want = impl.EngineOut{Text: strings.Replace(text, head23, head27, 1)}
		}
		checkTranslate(t, text, 3, want)
	}
	// Each of many grows by a little: of 165 all have room in the third version, but not in the second.
	many := slices.Repeat([]string{head23}, 30)
	full := engineFault(impl.ErrFull, 0, "")
	for last, codes := range map[int][2]int64{0: {impl.OK, impl.OK}, 15: {impl.ErrFull, impl.OK}, 30: {impl.ErrFull, impl.ErrFull}} {
		text := bringText(t, many, many, many, many, many, many[:last])
		for i, code := range codes {
			want := translatedByHand(text, int64(i+2))
			same(t, fmt.Sprint("code of ", 150+last), want.Code, code)
			if code != impl.OK {
				want = full
			}
			checkTranslate(t, text, int64(i+2), want)
		}
		checkTranslate(t, text, 1, impl.EngineOut{Text: text})
	}
}

// What is not brought over is told ahead of what would have no room.
func TestTranslateStopsAheadOfFull(t *testing.T) {
	m := longMessage(t, impl.MaxBytes-200)
	for _, lines := range []string{head23 + "\rOBR", head251 + "\rSFT|a|b"} {
		wrong := readLines(t, lines)
		text := textByHand(batched("f", batchOf("b", m, wrong, readLines(t, head23))))
		out := impl.Translate(text, 1)
		check(t, named("Translate", lines), out, translatedByHand(text, 1))
		same(t, named("at", lines), out.At, 1)
		if text == "" || out.Code == impl.OK || out.Code == impl.ErrFull {
			t.Errorf("%d bytes, code %d", len(text), out.Code)
		}
	}
	room := impl.MaxBytes - len(lined(fhs, bhs, head23+"\rOBR", "BTS|2", "FTS|1"))
	text := textByHand(batched("f", batchOf("b", longMessage(t, room), readLines(t, head23+"\rOBR"))))
	same(t, "bytes", len(text), impl.MaxBytes)
	checkTranslate(t, text, 2, engineFault(impl.ErrSchema, 1, "OBR[1]"))
	checkFirstFault(t, text, engineFault(impl.ErrSchema, 1, "OBR[1]"))
}

// Of FirstFault the first Message that is out of order, in any Batch; what a bridge can't carry is none.
func TestFirstFault(t *testing.T) {
	wrong, other, carry := head23+"\rNTE\rOBR", head251+"\rPV1||i", head27+"\rPRT||A"
	for _, c := range []stopCase{
		{[][]string{{wrong}}, 0, 0, "OBR[1]", impl.ErrSchema}, {[][]string{{wrong, head23, head27}}, 0, 0, "OBR[1]", impl.ErrSchema}, {[][]string{{head23, wrong, head27}}, 0, 1, "OBR[1]", impl.ErrSchema}, {[][]string{{head23, carry, other}}, 0, 2, "PV1-2", impl.ErrSchema},
		{[][]string{{}, {other}}, 0, 0, "PV1-2", impl.ErrSchema}, {[][]string{{head23}, {head23, head27}, {}, {carry, other, head23}}, 0, 4, "PV1-2", impl.ErrSchema}, {[][]string{{head23}, {head23, wrong}, {other}}, 0, 2, "OBR[1]", impl.ErrSchema}, {[][]string{{head23}, {head23, other}, {wrong}}, 0, 2, "PV1-2", impl.ErrSchema}, {[][]string{{other, wrong}}, 0, 0, "PV1-2", impl.ErrSchema},
		{[][]string{{carry, head251 + "\rSFT|a|b", head27}, {head23}}, 0, 0, "", impl.OK}, {[][]string{{head23}}, 0, 0, "", impl.OK}, {[][]string{slices.Repeat([]string{head23}, 30), slices.Repeat([]string{head27}, 30)}, 0, 0, "", impl.OK}, {[][]string{slices.Repeat([]string{head23}, 30), append(slices.Repeat([]string{head27}, 29), wrong)}, 0, 59, "OBR[1]", impl.ErrSchema},
		{[][]string{{head23, `MSH|^~\&|A`}}, 0, 1, "MSH-12", impl.ErrSchema}, {[][]string{{carry}, {`MSH|^~\&|A||||20240101||ADT^A01|1||2.4`}}, 0, 1, "MSH-12", impl.ErrSchema},
	} {
		checkFirstFault(t, bringText(t, c.batches...), engineFault(c.code, c.at, c.path))
	}
	for _, c := range messageCases() {
		want := engineFault(impl.ErrSchema, 3, c.path)
		if c.path == "" {
			want = impl.EngineOut{}
		}
		if c.path != "none" {
			checkFirstFault(t, bringText(t, []string{head23, head251}, nil, []string{head27, c.lines, head23}), want)
		}
	}
}
