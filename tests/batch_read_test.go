package tests

import (
	"fmt"
	"regexp"
	"slices"
	"strings"
	"testing"

	"loop.example/g00416/impl"
)

// linesOf are the lines of a text, each with its 13.
func linesOf(text string) []string {
	lines := strings.SplitAfter(text, "\r")
	return lines[:len(lines)-1]
}

func checkRead(t *testing.T, text string, want impl.FileOut) {
	t.Helper()
	check(t, named("FileRead", text), impl.FileRead(text), want)
	check(t, named("by hand", text), fileByHand(text), want)
}

func checkFault(t *testing.T, code int64, at int64, lines ...string) {
	t.Helper()
	checkRead(t, lined(lines...), fileFault(code, at))
}

func TestFileRead(t *testing.T) {
	for _, c := range rightFiles() {
		checkRead(t, c.text, fileTold(c.file))
	}
}

// linePatterns are the lines that are a file's own.
var (
	filePattern  = regexp.MustCompile(`^FHS\|\^~\\&\|([a-z][a-z0-9_]{0,19})\r$`)
	batchPattern = regexp.MustCompile(`^BHS\|\^~\\&\|([a-z][a-z0-9_]{0,19})\r$`)
	countPattern = regexp.MustCompile(`^(?:BTS|FTS)\|(0|[1-9][0-9]{0,3})\r$`)
	ownLine      = regexp.MustCompile(`^(FHS|BHS|BTS|FTS)`)
)

// byHand has the lines that are left.
type byHand struct {
	lines []string
	at    int
	fault *impl.FileOut
}

func (h *byHand) line() string {
	if h.at < len(h.lines) {
		return h.lines[h.at]
	}
	return ""
}

func (h *byHand) fails(code int64, at int) bool {
	out := fileFault(code, int64(at))
	h.fault = &out
	return false
}

// count takes a line that tells a number.
func (h *byHand) count(name string, many int) bool {
	found := countPattern.FindStringSubmatch(h.line())
	if found == nil || !strings.HasPrefix(h.line(), name) {
		return h.fails(impl.ErrSyntax, h.at)
	}
	if found[1] != fmt.Sprint(many) {
		return h.fails(impl.ErrCount, h.at)
	}
	h.at++
	return true
}

// message takes the lines of one, which is the nth of its Batch, from 0 on.
func (h *byHand) message(nth int) (impl.Message, bool) {
	if !strings.HasSuffix(h.line(), "\r") {
		return impl.Message{}, h.fails(impl.ErrSyntax, h.at)
	}
	behind := h.lines[h.at+1:]
	many := slices.IndexFunc(behind, func(line string) bool { return strings.HasPrefix(line, "MSH") || strings.HasPrefix(line, "BTS") })
	switch {
	case many < 0 && nth == impl.MaxMessages:
		return impl.Message{}, h.fails(impl.ErrFull, h.at)
	case many < 0 && !strings.HasSuffix(h.lines[len(h.lines)-1], "\r"):
		return impl.Message{}, h.fails(impl.ErrSyntax, len(h.lines)-1)
	case many < 0:
		return impl.Message{}, h.fails(impl.ErrSyntax, len(h.lines))
	}
	read := impl.MessageRead(h.line() + strings.Join(behind[:many], ""))
	if read.Code != impl.OK || read.Message.Marks != usual || slices.ContainsFunc(behind[:many], ownLine.MatchString) {
		return impl.Message{}, h.fails(impl.ErrSchema, h.at)
	}
	if nth == impl.MaxMessages {
		return impl.Message{}, h.fails(impl.ErrFull, h.at)
	}
	h.at += 1 + many
	return read.Message, true
}

func (h *byHand) batch(nth int) (impl.Batch, bool) {
	found := batchPattern.FindStringSubmatch(h.line())
	if found == nil {
		return impl.Batch{}, h.fails(impl.ErrSyntax, h.at)
	}
	if nth == 10 {
		return impl.Batch{}, h.fails(impl.ErrFull, h.at)
	}
	h.at++
	b := batchOf(found[1])
	for strings.HasPrefix(h.line(), "MSH") {
		m, ok := h.message(len(b.Messages))
		if !ok {
			return b, false
		}
		b.Messages = append(b.Messages, m)
	}
	return b, h.count("BTS", len(b.Messages))
}

func (h *byHand) file() (impl.File, bool) {
	found := filePattern.FindStringSubmatch(h.line())
	if found == nil {
		return impl.File{}, h.fails(impl.ErrSyntax, h.at)
	}
	h.at++
	f := batched(found[1])
	for !strings.HasPrefix(h.line(), "FTS") {
		b, ok := h.batch(len(f.Batches))
		if !ok {
			return f, false
		}
		f.Batches = append(f.Batches, b)
	}
	if !h.count("FTS", len(f.Batches)) {
		return f, false
	}
	return f, h.at == len(h.lines) || h.fails(impl.ErrSyntax, h.at)
}

// fileByHand is what FileRead is asked for, by patterns of whole lines.
func fileByHand(text string) impl.FileOut {
	lines := strings.SplitAfter(text, "\r")
	if lines[len(lines)-1] == "" {
		lines = lines[:len(lines)-1]
	}
	h := byHand{lines: lines}
	f, ok := h.file()
	if !ok {
		return *h.fault
	}
	return fileTold(f)
}

// A text that ends ahead of its last line, at each line and at each byte of it.
func TestFileReadEndsEarly(t *testing.T) {
	text := lined(fhs, bhs, msh, "PID|1", msh, "BTS|2", "BHS"+usual+"|c", "BTS|0", "FTS|2")
	checkFault(t, impl.ErrSyntax, 0)
	lines := linesOf(text)
	for n, line := range lines {
		ahead := strings.Join(lines[:n], "")
		checkRead(t, ahead, fileFault(impl.ErrSyntax, int64(n)))
		for cut := 1; cut < len(line); cut++ {
			checkRead(t, ahead+line[:cut], fileFault(impl.ErrSyntax, int64(n)))
		}
	}
	for _, c := range rightFiles() {
		for n := range linesOf(c.text) {
			checkRead(t, strings.Join(linesOf(c.text)[:n], ""), fileFault(impl.ErrSyntax, int64(n)))
		}
	}
}

func TestFileReadGoesOn(t *testing.T) {
	for _, c := range rightFiles() {
		lines := len(linesOf(c.text))
		for _, more := range []string{"\r", "\n", "x", " ", "\x00", "FTS|1\r", lined(fhs), lined(bhs), lined(msh), "FTS|0", "\r\r\r", "\n\r", lined(fhs, "FTS|0")} {
			if len(c.text+more) <= impl.MaxBytes {
				checkRead(t, c.text+more, fileFault(impl.ErrSyntax, int64(lines)))
			}
		}
	}
	// What is wrong ahead of it is told first.
	checkFault(t, impl.ErrCount, 1, fhs, "FTS|1", "x")
	checkFault(t, impl.ErrSyntax, 1, fhs, "FTS|x", "x")
}

// Each line in the place of each other: what can't be there is told there.
func TestFileReadOrderOfLines(t *testing.T) {
	pid, b0, b1, f0, f1 := "PID|1", "BTS|0", "BTS|1", "FTS|0", "FTS|1"
	for _, c := range []struct {
		at    int64
		lines []string
	}{
		{0, []string{""}}, {0, []string{bhs}}, {0, []string{msh}}, {0, []string{pid}}, {0, []string{b0}}, {0, []string{f0}}, {0, []string{"", fhs, f0}}, {0, []string{"x", fhs, f0}},
		{1, []string{fhs}}, {1, []string{fhs, ""}}, {1, []string{fhs, fhs}}, {1, []string{fhs, fhs, f0}}, {1, []string{fhs, msh}}, {1, []string{fhs, msh, b1, f1}}, {1, []string{fhs, pid}}, {1, []string{fhs, b0}}, {1, []string{fhs, b0, f0}}, {1, []string{fhs, "", f0}},
		{2, []string{fhs, bhs}}, {2, []string{fhs, bhs, ""}}, {2, []string{fhs, bhs, fhs}}, {2, []string{fhs, bhs, bhs}}, {2, []string{fhs, bhs, bhs, b0, f1}}, {2, []string{fhs, bhs, pid, msh, b1, f1}}, {2, []string{fhs, bhs, "", b0, f1}}, {2, []string{fhs, bhs, f1}}, {2, []string{fhs, bhs, "ZZZ", b0, f1}}, {2, []string{fhs, bhs, " " + msh, b1, f1}},
		{3, []string{fhs, bhs, b0}}, {3, []string{fhs, bhs, b0, ""}}, {3, []string{fhs, bhs, b0, fhs}}, {3, []string{fhs, bhs, b0, msh, b1, f1}}, {3, []string{fhs, bhs, b0, pid}}, {3, []string{fhs, bhs, b0, b0, f1}}, {3, []string{fhs, bhs, b0, "", f1}},
		{4, []string{fhs, bhs, msh, b1}}, {4, []string{fhs, bhs, msh, b1, msh, b1, f1}}, {4, []string{fhs, bhs, msh, b1, b1, f1}}, {4, []string{fhs, bhs, msh, b1, pid, f1}}, {4, []string{fhs, bhs, msh, b1, fhs, f1}},
		{5, []string{fhs, bhs, msh, b1, bhs, f1}}, {5, []string{fhs, bhs, msh, b1, bhs, bhs, b0}}, {2, []string{fhs, f0, ""}}, {2, []string{fhs, f0, f0}}, {4, []string{fhs, bhs, b0, f1, bhs}},
		// A message goes on to the next MSH or BTS: without any it has no end.
		{3, []string{fhs, bhs, msh}}, {4, []string{fhs, bhs, msh, pid}}, {4, []string{fhs, bhs, msh, f1}}, {4, []string{fhs, bhs, msh, f0}}, {5, []string{fhs, bhs, msh, bhs, f1}}, {5, []string{fhs, bhs, msh, "x", "\n"}}, {4, []string{fhs, bhs, msh, msh}}, {5, []string{fhs, bhs, msh, pid, msh}}, {6, []string{fhs, bhs, msh, pid, msh, f1}}, {5, []string{fhs, bhs, msh, "", ""}}, {4, []string{fhs, bhs, "MSH", "x"}}, {3, []string{fhs, bhs, "MSHx"}},
	} {
		checkFault(t, impl.ErrSyntax, c.at, c.lines...)
	}
}

// No Id, other marks, or another Name, in each of a file's own lines that have these.
func TestFileReadHeads(t *testing.T) {
	heads := []string{"", "f", "|f", usual + "f", usual, usual + "|", usual + "||f", usual + "|f|", usual + "| f", "|" + usual + "|f", "^~\\&|f", "|^~\\|f", "|^~\\&&|f", "|^~\\&\\|f", "|^~&\\|f", "|~^\\&|f", "|^~\\!|f", "!^~\\&!f", "@[]_`@f", usual + "!f", usual + "\\f", usual + "|f^g", usual + "|f|g", " " + usual + "|f", "X" + usual + "|f"}
	for _, id := range noIds() {
		if !strings.Contains(id, "\r") && len(id) < impl.MaxBytes-100 {
			heads = append(heads, usual+"|"+id)
		}
	}
	for _, behind := range heads {
		checkFault(t, impl.ErrSyntax, 0, "FHS"+behind, "FTS|0")
		checkFault(t, impl.ErrSyntax, 0, "FHS"+behind, bhs, msh, "BTS|1", "FTS|1")
		checkFault(t, impl.ErrSyntax, 1, fhs, "BHS"+behind, "BTS|0", "FTS|1")
		checkFault(t, impl.ErrSyntax, 4, fhs, bhs, msh, "BTS|1", "BHS"+behind, msh, "BTS|1", "FTS|2")
	}
	for _, name := range []string{"", "F", "FH", "fhs", "FHSS", " FHS", "FSH", "HDR", "MSH", "BTS", "FTS", "\nFHS"} {
		checkFault(t, impl.ErrSyntax, 0, name+usual+"|f", "FTS|0")
		checkFault(t, impl.ErrSyntax, 1, fhs, strings.ReplaceAll(name, "FH", "BH")+usual+"|b!", "BTS|0", "FTS|1")
	}
	checkFault(t, impl.ErrSyntax, 0, bhs, "FTS|0")
	checkFault(t, impl.ErrSyntax, 1, fhs, fhs, "BTS|0", "FTS|1")
	checkRead(t, lined("FHS"+usual+"|"+twenty("x"), "BHS"+usual+"|y", "BTS|0", "FTS|1"), fileTold(batched(twenty("x"), batchOf("y"))))
}

// noCounts are no number of 1 to 4 digits without needless noughts.
func noCounts() []string {
	list := []string{"", " ", "-", "+", "x", "-1", "+1", "-0", "+0", " 1", "1 ", "01", "00", "000", "0000", "0001", "00001", "10000", "00000", "99999", "123456789", "1.", "1.0", "0.", "1x", "0x1", "1e0", "1_0", "1,", "|", "|1", "1|", "1|1", "1^", "1\n", "\n1", "1\x00", "١", "１", "²", "/", ":", "1/", "1:"}
	return append(list, strings.Repeat("1", 20), strings.Repeat("9", 60), "18446744073709551617", "4294967297")
}

func TestFileReadCounts(t *testing.T) {
	for many := range 4 {
		messages, batches := slices.Repeat([]string{msh}, many), slices.Repeat([]string{bhs, "BTS|0"}, many)
		b, f := append([]string{fhs, bhs}, messages...), append([]string{fhs}, batches...)
		for _, count := range noCounts() {
			checkFault(t, impl.ErrSyntax, int64(len(b)), append(slices.Clone(b), "BTS|"+count, "FTS|1")...)
			checkFault(t, impl.ErrSyntax, int64(len(f)), append(slices.Clone(f), "FTS|"+count)...)
		}
		for _, count := range []int{0, 1, 2, 3, 4, 5, 9, 10, 11, 30, 31, 100, 999, 1000, 9999} {
			if count == many {
				continue
			}
			checkFault(t, impl.ErrCount, int64(len(b)), append(slices.Clone(b), fmt.Sprint("BTS|", count), "FTS|1")...)
			checkFault(t, impl.ErrCount, int64(len(f)), append(slices.Clone(f), fmt.Sprint("FTS|", count))...)
		}
	}
	for _, line := range []string{"BTS", "BTS1", "BTS^0", "BTS 0", "BTSX|0", "BTS||0", "BTS|^~\\&|0", "bts|0", "BT|0", "BTS\n|0", "FTS|0", "BHS|0"} {
		checkFault(t, impl.ErrSyntax, 2, fhs, bhs, line, "FTS|1")
	}
	for _, line := range []string{"FTS", "FTS1", "FTS^0", "FTS 0", "FTSX|0", "FTS||0", "FTS|^~\\&|0", "fts|0", "FT|0", "FTS\n|0", "BTS|0", "FHS|0"} {
		checkFault(t, impl.ErrSyntax, 1, fhs, line)
	}
}

// One too many, and one too few, of as many as may be.
func TestFileReadCountsAtLimits(t *testing.T) {
	full := append([]string{fhs, bhs}, slices.Repeat([]string{msh}, 30)...)
	for _, count := range []int{29, 31, 3, 300} {
		checkFault(t, impl.ErrCount, 32, append(slices.Clone(full), fmt.Sprint("BTS|", count), "FTS|1")...)
	}
	batches := append([]string{fhs}, slices.Repeat([]string{bhs, "BTS|0"}, 10)...)
	for _, count := range []int{9, 11, 1, 100} {
		checkFault(t, impl.ErrCount, 21, append(slices.Clone(batches), fmt.Sprint("FTS|", count))...)
	}
	checkFault(t, impl.ErrSyntax, 21, append(slices.Clone(batches), "FTS|010")...)
	checkFault(t, impl.ErrSyntax, 21, batches...)
	// A Batch without Messages counts; what stands in the Batch ahead does not.
	checkFault(t, impl.ErrCount, 7, fhs, bhs, msh, msh, "BTS|2", bhs, msh, "BTS|3", "FTS|2")
	checkFault(t, impl.ErrCount, 4, fhs, bhs, msh, msh, "BTS|3", bhs, msh, "BTS|1", "FTS|2")
}
