package tests

import (
	"fmt"
	"math/rand"
	"slices"
	"strings"
	"testing"

	"loop.example/g00416/impl"
)

// noMessages: lines, from an MSH on, that are no MessageText by the usual marks, or hold a line of a file's own.
func noMessages() [][]string {
	list := [][]string{
		{"MSH"}, {"MSHA"}, {head}, {head + "|"}, {head + "||"}, {head + "A"}, {"MSH|A"}, {"MSH|^~\\|A"}, {"MSH|^~\\&&|A"}, {"MSH "},
		// An empty Field, Rep, Comp or Sub at an end.
		{msh + "|"}, {msh + "||"}, {msh + "~"}, {msh + "^"}, {msh + "&"}, {msh, "PID|"}, {msh, "PID|1|"}, {msh, "PID|1~|2"}, {msh, "PID|1^~2"}, {msh, "PID|^|2"}, {msh, "PID|1&^2"},
		// A wrong escape.
		{msh + `\`}, {msh + `\X\`}, {msh + `\F`}, {msh + `\f\`}, {msh + `\\`}, {msh, `PID|\`}, {msh, `PID|\FS\`}, {msh, `PID|a\.br\b`},
		// A wrong Name.
		{msh, "pid|1"}, {msh, "Pid|1"}, {msh, "PI|1"}, {msh, "PIDD|1"}, {msh, "1ID|1"}, {msh, "P-D|1"}, {msh, "msh|1"}, {msh, " MSH|1"}, {msh, "|1"}, {msh, "x"}, {msh, " "}, {msh, "PID 1"}, {msh, "PID^1"},
		// Lines of no bytes, and other bytes than 32 to 126.
		{msh, ""}, {msh, "", "PID|1"}, {msh, "PID|1", ""}, {msh, "\nPID|1"}, {msh + "\n"}, {msh, "PID|1\n"}, {msh, "PID|1\nPID|2"}, {msh, "PID|\x1f"}, {msh, "PID|\x7f"}, {msh, "PID|\x80"}, {msh + "é"}, {msh, "\nBTS|1"}, {msh, "\nMSH|1"},
		// More than may be.
		append([]string{msh}, many("PID|1", 20)...), {head + strings.Repeat("|a", 31)}, {msh, "PID" + strings.Repeat("|a", 31)}, {msh, "PID|" + strings.Repeat("a~", 5) + "a"}, {msh, "PID|" + strings.Repeat("a^", 10) + "a"}, {msh, "PID|" + strings.Repeat("a&", 5) + "a"}, {msh, "PID|" + strings.Repeat("x", 61)},
		// Other Marks, by which the message is right.
		{"MSH@[]_`@A"}, {"MSH@[]_`@A", "PID@1"}, {`MSH|^~\!|A`}, {`MSH!^~\&!A`}, {`MSH|~^\&|A`}, {`MSH|^~&\|A`}, {`MSH|^~\&|A`, "PID@1"}, {"MSH!\"#$%!A"},
		// The lines of a file's own.
		{msh, "BHS|1"}, {msh, "FHS|1"}, {msh, "FTS|1"}, {msh, "FTS|0", "PID|1"}, {msh, "FTS"}, {msh, "BHS", "PID|1"}, {msh, "PID|1", "FHS|x"}, {msh, "BHS|x|y", "ZZZ"}, {msh, bhs}, {msh, fhs}, {msh, fhs, bhs}, {msh, "FHSX"}, append(append([]string{msh}, many("PID|1", 18)...), "FTS|1"),
	}
	for _, text := range brokenMessages() {
		lines := linesOf(text)
		if strings.HasSuffix(text, "\r") && strings.HasPrefix(text, "MSH") && !strings.Contains(text[1:], "\rMSH") {
			list = append(list, withoutEnds(lines))
		}
	}
	return list
}

// withoutEnds takes the 13 off each line.
func withoutEnds(lines []string) []string {
	var list []string
	for _, line := range lines {
		list = append(list, strings.TrimSuffix(line, "\r"))
	}
	return list
}

func TestFileReadMessages(t *testing.T) {
	if n := len(noMessages()); n < 110 {
		t.Errorf("only %d that are none", n)
	}
	for _, lines := range noMessages() {
		long := int64(len(lines))
		alone := slices.Concat([]string{fhs, bhs}, lines, []string{"BTS|1", "FTS|1"})
		checkFault(t, impl.ErrSchema, 2, alone...)
		checkFault(t, impl.ErrSchema, 2, slices.Concat([]string{fhs, bhs}, lines, []string{msh, "BTS|2", "FTS|1"})...)
		checkFault(t, impl.ErrSchema, 4, slices.Concat([]string{fhs, bhs, msh, "PID|1"}, lines, []string{msh, "BTS|3", "FTS|1"})...)
		checkFault(t, impl.ErrSchema, 3, slices.Concat([]string{fhs, bhs, msh}, lines, []string{"BTS|2", "FTS|1"})...)
		checkFault(t, impl.ErrSchema, 7, slices.Concat([]string{fhs, bhs, msh, "BTS|1", bhs, msh, "PID|1"}, lines, []string{"BTS|2", "FTS|2"})...)
		// The first of two is told.
		checkFault(t, impl.ErrSchema, 2, slices.Concat([]string{fhs, bhs}, lines, lines, []string{"BTS|2", "FTS|1"})...)
		// Without an end there is no message that might be wrong.
		checkFault(t, impl.ErrSyntax, 2+long, slices.Concat([]string{fhs, bhs}, lines)...)
		checkFault(t, impl.ErrSyntax, 3+long, slices.Concat([]string{fhs, bhs}, lines, []string{"FTS|1"})...)
		checkFault(t, impl.ErrSyntax, 3+long, slices.Concat([]string{fhs, bhs, msh}, lines)...)
	}
}

// A message is read up to the next line that begins with MSH or BTS, whatever stands behind these three bytes.
func TestFileReadEndOfMessage(t *testing.T) {
	checkFault(t, impl.ErrSchema, 3, fhs, bhs, msh, "MSHA", "BTS|2", "FTS|1")
	checkFault(t, impl.ErrSchema, 3, fhs, bhs, msh, "MSH", "PID|1", "BTS|2", "FTS|1")
	checkFault(t, impl.ErrSyntax, 3, fhs, bhs, msh, "BTSA", "BTS|1", "FTS|1")
	checkFault(t, impl.ErrSyntax, 3, fhs, bhs, msh, "BTS", "PID|1", "BTS|1", "FTS|1")
	checkFault(t, impl.ErrSchema, 2, fhs, bhs, "MSHA", "BTSA", "BTS|1", "FTS|1")
	checkFault(t, impl.ErrSchema, 2, fhs, bhs, msh, "BT", "S|1", "BTS|1", "FTS|1")
	checkFault(t, impl.ErrSchema, 2, fhs, bhs, msh, "MS", "BTS|1", "FTS|1")
	checkFault(t, impl.ErrSchema, 2, fhs, bhs, msh, "msh|1", "BTS|1", "FTS|1")
	checkRead(t, lined(fhs, bhs, msh, "ZBT|MSH|BTS", "BTS|1", "FTS|1"), fileTold(batched("f", batchOf("b", headed(segmentOf("ZBT", oneSub("MSH"), oneSub("BTS")))))))
}

// At different lines the first one is told, whatever its code.
func TestFileReadTwoFaults(t *testing.T) {
	bad := msh + "|"
	checkFault(t, impl.ErrSchema, 2, fhs, bhs, bad, "BTS|2", "FTS|1")
	checkFault(t, impl.ErrSchema, 2, fhs, bhs, bad, "BTS|x", "FTS|1")
	checkFault(t, impl.ErrSchema, 2, fhs, bhs, bad, "PID|1", "BTS")
	checkFault(t, impl.ErrSchema, 2, fhs, bhs, bad, "BTS|1", "FTS|2")
	checkFault(t, impl.ErrSchema, 2, fhs, bhs, bad, msh)
	checkFault(t, impl.ErrSchema, 2, fhs, bhs, bad, "BTS|1")
	checkFault(t, impl.ErrSchema, 3, fhs, bhs, msh, bad, "BTS|1", "FTS|1")
	checkFault(t, impl.ErrCount, 3, fhs, bhs, msh, "BTS|2", "FTS|2")
	checkFault(t, impl.ErrCount, 3, fhs, bhs, msh, "BTS|2", "FTS|x")
	checkFault(t, impl.ErrCount, 3, fhs, bhs, msh, "BTS|0", bhs, bad, "BTS|1", "FTS|2")
	checkFault(t, impl.ErrCount, 2, fhs, bhs, "BTS|1")
	checkFault(t, impl.ErrCount, 2, fhs, bhs, "BTS|1", "PID|1")
	checkFault(t, impl.ErrSyntax, 1, fhs, "BHS|b", bad, "BTS|2", "FTS|2")
	checkFault(t, impl.ErrSyntax, 0, "FHS|f", "BHS|b", bad, "BTS|2", "FTS|2")
	checkFault(t, impl.ErrSyntax, 2, fhs, bhs, "BTS|x", "FTS|2", "x")
	checkFault(t, impl.ErrSyntax, 4, fhs, bhs, bad, "PID|1")
	checkFault(t, impl.ErrCount, 1, fhs, "FTS|2", "x")
}

// What lacks its 13 can't be, whatever it is; but a message that it ends may be wrong, at a line ahead.
func TestFileReadWithoutItsEnd(t *testing.T) {
	bad := msh + "|"
	for _, c := range []struct {
		ahead []string
		last  string
		code  int64
		at    int64
	}{
		{nil, fhs, impl.ErrSyntax, 0}, {nil, "FHS", impl.ErrSyntax, 0}, {nil, "x", impl.ErrSyntax, 0}, {nil, "\n", impl.ErrSyntax, 0},
		{[]string{fhs}, "FTS|0", impl.ErrSyntax, 1}, {[]string{fhs}, "FTS|7", impl.ErrSyntax, 1}, {[]string{fhs}, "FTS|0\n", impl.ErrSyntax, 1}, {[]string{fhs}, bhs, impl.ErrSyntax, 1}, {[]string{fhs}, "x", impl.ErrSyntax, 1},
		{[]string{fhs, bhs}, "BTS|0", impl.ErrSyntax, 2}, {[]string{fhs, bhs}, "BTS|7", impl.ErrSyntax, 2}, {[]string{fhs, bhs}, msh, impl.ErrSyntax, 2}, {[]string{fhs, bhs}, bad, impl.ErrSyntax, 2},
		{[]string{fhs, bhs, "BTS|0"}, "FTS|1", impl.ErrSyntax, 3}, {[]string{fhs, bhs, "BTS|0"}, "FTS|2", impl.ErrSyntax, 3}, {[]string{fhs, bhs, "BTS|0", "FTS|1"}, "x", impl.ErrSyntax, 4},
		{[]string{fhs, bhs, msh}, "PID|1", impl.ErrSyntax, 3}, {[]string{fhs, bhs, msh}, "FTS|1", impl.ErrSyntax, 3}, {[]string{fhs, bhs, msh}, "x", impl.ErrSyntax, 3}, {[]string{fhs, bhs, msh}, "B", impl.ErrSyntax, 3}, {[]string{fhs, bhs, msh}, msh, impl.ErrSyntax, 3}, {[]string{fhs, bhs, msh}, bad, impl.ErrSyntax, 3}, {[]string{fhs, bhs, msh}, "BTS|1", impl.ErrSyntax, 3}, {[]string{fhs, bhs, msh}, "BTS", impl.ErrSyntax, 3},
		{[]string{fhs, bhs, bad}, "PID|1", impl.ErrSyntax, 3}, {[]string{fhs, bhs, bad}, "MS", impl.ErrSyntax, 3}, {[]string{fhs, bhs, bad}, "BT", impl.ErrSyntax, 3}, {[]string{fhs, bhs, bad}, "MSH", impl.ErrSchema, 2}, {[]string{fhs, bhs, bad}, "BTS", impl.ErrSchema, 2}, {[]string{fhs, bhs, bad}, "BTS|1", impl.ErrSchema, 2}, {[]string{fhs, bhs, bad, "PID|1"}, msh, impl.ErrSchema, 2}, {[]string{fhs, bhs, bad, "PID|1"}, "PID|2", impl.ErrSyntax, 4},
	} {
		checkRead(t, lined(c.ahead...)+c.last, fileFault(c.code, c.at))
	}
	for _, c := range rightFiles() {
		checkRead(t, strings.TrimSuffix(c.text, "\r"), fileFault(impl.ErrSyntax, int64(len(linesOf(c.text))-1)))
	}
}

// A byte 10 in a line, at each of its places.
func TestFileReadLineFeeds(t *testing.T) {
	lines := []string{fhs, bhs, msh, "PID|1", "BTS|1", "FTS|1"}
	for n, line := range lines {
		for at := range len(line) + 1 {
			fed := slices.Clone(lines)
			fed[n] = line[:at] + "\n" + line[at:]
			code, told := int64(impl.ErrSyntax), n
			switch {
			case n == 3 || n == 2 && at > 2:
				code, told = impl.ErrSchema, 2
			case n == 4 && at < 3:
				// The line is no BTS any more, so that the message has no end.
				told = len(lines)
			}
			checkFault(t, code, int64(told), fed...)
		}
	}
	checkRead(t, strings.ReplaceAll(lined(lines...), "\r", "\r\n"), fileFault(impl.ErrSyntax, 1))
	checkRead(t, strings.ReplaceAll(lined(lines...), "\r", "\n"), fileFault(impl.ErrSyntax, 0))
	checkRead(t, lined(lines...)+"\n", fileFault(impl.ErrSyntax, 6))
}

// crowd: the lines of a File up to so many messages of two lines in its second Batch, and those behind.
func crowd(messages int, behind ...string) []string {
	lines := []string{fhs, bhs, "MSH|^~\\&|B", "PID|1", "BTS|1", bhs}
	for range messages {
		lines = append(lines, msh, "PID|1")
	}
	return append(lines, behind...)
}

func TestFileReadTooManyMessages(t *testing.T) {
	const at = 6 + 2*30
	bad := msh + "|"
	want := batched("f", batchOf("b", headed(segmentOf("PID", oneSub("1")))), batchOf("b", slices.Repeat([]impl.Message{headed(segmentOf("PID", oneSub("1")))}, 30)...))
	want.Batches[0].Messages[0].Segments[0].Fields[0] = oneSub("B")
	checkRead(t, lined(crowd(30, "BTS|30", "FTS|2")...), fileTold(want))
	for _, behind := range [][]string{
		{msh, "BTS|31", "FTS|2"}, {msh, "PID|1", "BTS|31", "FTS|2"}, {msh, "BTS|30", "FTS|2"}, {msh, "BTS|x"}, {msh, msh, "BTS|32"}, {msh, "BTS"}, {msh, bad, "BTS|32", "FTS|2"}, {msh, "MSH"},
		// One that has no end is one too many ahead of the line where it lacks.
		{msh}, {msh, "PID|1"}, {msh, "FTS|2"}, {bad}, {bad, "x", ""}, {"MSH", "PID|1"}, {"MSHA"}, {msh, "FTS|1", bhs},
	} {
		checkFault(t, impl.ErrFull, at, crowd(30, behind...)...)
	}
	// At the same line what is wrong in it is named ahead.
	for _, lines := range noMessages() {
		if len(lined(lines...)) > 1500 {
			continue
		}
		checkFault(t, impl.ErrSchema, at, crowd(30, append(slices.Clone(lines), "BTS|31", "FTS|2")...)...)
		checkFault(t, impl.ErrSchema, at, crowd(30, append(slices.Clone(lines), msh)...)...)
		checkFault(t, impl.ErrFull, at, crowd(30, lines...)...)
		checkFault(t, impl.ErrSchema, at-2, crowd(29, append(slices.Clone(lines), msh, msh, "BTS|32", "FTS|2")...)...)
		checkFault(t, impl.ErrSyntax, at-2+int64(len(lines)), crowd(29, lines...)...)
	}
	for _, last := range []string{"M", "MSH", msh, "BTS", "BTS|30", "PID|1"} {
		checkRead(t, lined(crowd(30)...)+last, fileFault(impl.ErrSyntax, at))
		checkRead(t, lined(crowd(30, msh)...)+last, fileFault(impl.ErrFull, at))
		checkRead(t, lined(crowd(30, msh, "PID|1")...)+last, fileFault(impl.ErrFull, at))
	}
	checkRead(t, lined(crowd(30, bad)...)+"BTS|31", fileFault(impl.ErrSchema, at))
	checkRead(t, lined(crowd(30, bad)...)+"PID|1", fileFault(impl.ErrFull, at))
	checkFault(t, impl.ErrCount, at, crowd(30, "BTS|31", "FTS|2")...)
	checkFault(t, impl.ErrSyntax, at, crowd(30)...)
	checkFault(t, impl.ErrSyntax, at-1, crowd(30)[:at-1]...)
}

func TestFileReadTooManyBatches(t *testing.T) {
	ahead := append([]string{fhs, bhs, msh, "PID|1", "BTS|1"}, slices.Repeat([]string{bhs, "BTS|0"}, 9)...)
	at := int64(len(ahead))
	for _, behind := range [][]string{
		{bhs}, {bhs, "BTS|0", "FTS|11"}, {bhs, msh, "BTS|1", "FTS|11"}, {bhs, "BTS|0", "FTS|10"}, {bhs, "BTS|x"}, {bhs, "x"}, {bhs, bhs}, {"BHS" + usual + "|c", msh + "|", "BTS|1"}, {bhs, "FTS|10"}, {bhs, msh},
	} {
		checkFault(t, impl.ErrFull, at, append(slices.Clone(ahead), behind...)...)
	}
	// At the same line what can't be is named ahead.
	for _, line := range []string{"", "BHS", "BHS" + usual + "|", "BHS" + usual + "|B", "BHS" + usual + "|" + twenty("b") + "_", "BHS|b", "BHS@[]_`@b", fhs, msh, "BTS|0", "PID|1"} {
		checkFault(t, impl.ErrSyntax, at, append(slices.Clone(ahead), line, "BTS|0", "FTS|11")...)
	}
	for _, last := range []string{bhs, "BHS", "FTS|10"} {
		checkRead(t, lined(ahead...)+last, fileFault(impl.ErrSyntax, at))
	}
	checkFault(t, impl.ErrCount, at, append(slices.Clone(ahead), "FTS|11")...)
	same(t, "10 Batches", impl.FileRead(lined(append(ahead, "FTS|10")...)).Code, impl.OK)
	// Faults ahead of it are told.
	ahead[4] = "BTS|2"
	checkFault(t, impl.ErrCount, 4, append(slices.Clone(ahead), bhs, "BTS|0", "FTS|11")...)
	ahead[3] = "PID|"
	checkFault(t, impl.ErrSchema, 2, append(slices.Clone(ahead), bhs, "BTS|0", "FTS|11")...)
}

func TestFileReadSizes(t *testing.T) {
	for _, text := range []string{huge(), fullFileText(impl.MaxBytes + 1), fullFileText(impl.MaxBytes + 2), strings.Repeat("\r", impl.MaxBytes+1), strings.Repeat(fhs+"\r", impl.MaxBytes), strings.Repeat("\x00", 1<<20)} {
		check(t, named("FileRead", text), impl.FileRead(text), fileFault(impl.ErrSize, 0))
	}
	for bytes := impl.MaxBytes - 5; bytes <= impl.MaxBytes; bytes++ {
		c := fullFile(bytes)
		checkRead(t, c.text, fileTold(c.file))
		checkRead(t, c.text[:bytes-1], fileFault(impl.ErrSyntax, int64(len(linesOf(c.text))-1)))
	}
	checkRead(t, strings.Repeat("x", impl.MaxBytes), fileFault(impl.ErrSyntax, 0))
	checkRead(t, strings.Repeat("\r", impl.MaxBytes), fileFault(impl.ErrSyntax, 0))
	ahead := lined(fhs, bhs, msh)
	left := impl.MaxBytes - len(ahead)
	checkRead(t, ahead+strings.Repeat("\r", left), fileFault(impl.ErrSyntax, int64(3+left)))
	checkRead(t, ahead+strings.Repeat("\r", left-4)+"BTS\r", fileFault(impl.ErrSchema, 2))
	checkRead(t, ahead+strings.Repeat("\r", left-1)+"x", fileFault(impl.ErrSyntax, int64(2+left)))
}

func fullFileText(bytes int) string { return fullFile(bytes).text }

// linePool are lines that a file may have, at their places and at others.
func linePool() []string {
	return []string{
		fhs, bhs, "BHS" + usual + "|c", msh, "MSH|^~\\&|B|", "MSH@[]_`@A", "PID|1", "PID|", "ZZZ", "BTS|0", "BTS|1", "BTS|2", "BTS|30", "BTS|x", "FTS|0", "FTS|1", "FTS|2", "FTS|01", "FHS" + usual + "|F", "BHS" + usual + "|", "", "\n", "x", "MSH", "BTS", "FTS", "BHS", "FHS|1",
	}
}

// randomLines are the lines of a File that is right.
func randomLines(random *rand.Rand) []string {
	lines := []string{fhs}
	batches := random.Intn(4)
	for range batches {
		lines = append(lines, bhs)
		messages := random.Intn(4)
		for range messages {
			lines = append(lines, msh)
			lines = append(lines, many("PID|1", random.Intn(3))...)
		}
		lines = append(lines, fmt.Sprint("BTS|", messages))
	}
	return append(lines, fmt.Sprint("FTS|", batches))
}

// harmed changes a list of lines at one place.
func harmed(random *rand.Rand, lines []string) []string {
	pool := linePool()
	line := pool[random.Intn(len(pool))]
	if len(lines) == 0 {
		return []string{line}
	}
	at, other := random.Intn(len(lines)), random.Intn(len(lines))
	switch random.Intn(5) {
	case 0:
		return slices.Insert(lines, at, line)
	case 1:
		return slices.Delete(lines, at, at+1)
	case 2:
		lines[at] = line
	case 3:
		lines[at], lines[other] = lines[other], lines[at]
	case 4:
		return slices.Insert(lines, at, slices.Clone(lines[min(at, other):max(at, other)])...)
	}
	return lines
}

// Of two and more faults, at any places, the one by hand is told.
func TestFileReadAnyFaults(t *testing.T) {
	random := rand.New(rand.NewSource(19))
	told := map[int64]int{}
	for range 60000 {
		lines := randomLines(random)
		for range random.Intn(4) {
			lines = harmed(random, lines)
		}
		text := lined(lines...)
		if len(text) > 0 && random.Intn(6) == 0 {
			text = text[:random.Intn(len(text))]
		}
		want := fileByHand(text)
		told[want.Code]++
		check(t, named("FileRead", text), impl.FileRead(text), want)
	}
	if told[impl.OK] < 5000 || told[impl.ErrSyntax] < 5000 || told[impl.ErrCount] < 2000 || told[impl.ErrSchema] < 2000 {
		t.Errorf("told: %v", told)
	}
}

// Of as many as may be, and more.
func TestFileReadAnyFaultsOfMany(t *testing.T) {
	random := rand.New(rand.NewSource(20))
	told := map[int64]int{}
	for range 8000 {
		lines := crowd(28+random.Intn(5), "BTS|30", "FTS|2")
		if random.Intn(2) == 0 {
			lines = slices.Concat([]string{fhs}, slices.Repeat([]string{bhs, "BTS|0"}, 9+random.Intn(3)), []string{"FTS|10"})
		}
		for range random.Intn(3) {
			lines = harmed(random, lines)
		}
		text := lined(lines...)
		if len(text) > impl.MaxBytes {
			continue
		}
		if random.Intn(6) == 0 {
			text = text[:random.Intn(len(text))]
		}
		want := fileByHand(text)
		told[want.Code]++
		check(t, named("FileRead", text), impl.FileRead(text), want)
	}
	if told[impl.OK] < 200 || told[impl.ErrFull] < 500 || told[impl.ErrCount] < 200 || told[impl.ErrSchema] < 200 {
		t.Errorf("told: %v", told)
	}
}

// Each byte of a text in the place of each other one, and out of it.
func TestFileReadOneByteOff(t *testing.T) {
	text := lined(fhs, "BHS"+usual+"|b9_", msh, "PID|1", msh, "BTS|2", bhs, "BTS|0", "FTS|2")
	for at := range len(text) {
		cut := text[:at] + text[at+1:]
		check(t, named("FileRead", cut), impl.FileRead(cut), fileByHand(cut))
		for b := range 256 {
			other := text[:at] + string([]byte{byte(b)}) + text[at+1:]
			check(t, named("FileRead", other), impl.FileRead(other), fileByHand(other))
			more := text[:at] + string([]byte{byte(b)}) + text[at:]
			check(t, named("FileRead", more), impl.FileRead(more), fileByHand(more))
		}
	}
}
