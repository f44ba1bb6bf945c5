package tests

import (
	"fmt"
	"regexp"
	"slices"
	"strconv"
	"strings"
	"testing"

	"loop.example/g00416/impl"
)

// deskText has each line with its line feed behind it.
func deskText(lines ...string) string {
	text := ""
	for _, line := range lines {
		text += line + "\n"
	}
	return text
}

func deskTold(lines ...string) impl.DeskOut {
	return impl.DeskOut{Text: deskText(lines...)}
}

func deskFault(line int64) impl.DeskOut {
	return impl.DeskOut{Line: line, Code: impl.ErrSyntax}
}

// checkDesk: DeskFault tells the same without Text.
func checkDesk(t *testing.T, text string, want impl.DeskOut) {
	t.Helper()
	check(t, named("DeskRun", text), impl.DeskRun(text), want)
	check(t, named("by hand", text), deskByHand(text), want)
	want.Text = ""
	check(t, named("DeskFault", text), impl.DeskFault(text), want)
}

// rowsOf are rows of a line, and behind ` > ` what it tells.
func rowsOf(t *testing.T, rows ...string) ([]string, []string) {
	t.Helper()
	var lines, told []string
	for _, row := range rows {
		line, answer, ok := strings.Cut(row, " > ")
		if !ok {
			t.Fatalf("no row: %q", row)
		}
		lines, told = append(lines, line), append(told, answer)
	}
	return lines, told
}

func checkRows(t *testing.T, rows ...string) {
	t.Helper()
	lines, told := rowsOf(t, rows...)
	checkDesk(t, deskText(lines...), deskTold(told...))
}

// checkScript: the first rows' lines tell the beginning of what all of them tell.
func checkScript(t *testing.T, rows ...string) {
	t.Helper()
	for n := range len(rows) + 1 {
		checkRows(t, rows[:n]...)
	}
}

// rightLine: the lines of the table; a number has one to nine digits, without a needless nought.
var rightLine = regexp.MustCompile(strings.NewReplacer("W", `[^ \n]+`, "N", `(0|[1-9][0-9]{0,8})`).Replace(`^(check|names|(new|get|forget) W|(set|fetch) W W|submit W N|torn W N N)$`))

// deskLinesByHand are the lines of a desk, or why it has none.
func deskLinesByHand(text string) ([]string, impl.DeskOut) {
	if len(text) > impl.MaxBytes {
		return nil, impl.DeskOut{Code: impl.ErrSize}
	}
	var lines []string
	for i, line := range strings.SplitAfter(text, "\n") {
		if line == "" {
			break
		}
		bare := strings.TrimSuffix(line, "\n")
		if i >= 30 || bare == line || !rightLine.MatchString(bare) {
			return nil, deskFault(int64(i))
		}
		lines = append(lines, bare)
	}
	return lines, impl.DeskOut{}
}

// handDesk is what the lines of a desk leave, by the words of chapter 12.
type handDesk struct {
	pairs []pair
	sheet []impl.Message
}

func deskByHand(text string) impl.DeskOut {
	lines, out := deskLinesByHand(text)
	h := handDesk{}
	for _, line := range lines {
		out.Text += h.tell(strings.Split(line, " ")) + "\n"
	}
	return out
}

func (h *handDesk) tell(words []string) string {
	switch words[0] {
	case "new":
		return h.add(words[1])
	case "set":
		return h.put(words[1], words[2])
	case "get":
		return valueByHand(h.sheet, words[1])
	case "check":
		return placeTold(firstFaultByHand(h.text()))
	case "submit":
		out := h.submit(words[1], words[2], "999999999")
		return placeTold(out)
	case "torn":
		return codeTold(h.submit(words[1], words[2], words[3]).Code)
	case "fetch":
		return h.fetch(words[1], words[2])
	case "forget":
		return h.forget(words[1])
	}
	return orDash(strings.Join(idsOf(h.pairs), ","))
}

func orDash(text string) string {
	if text == "" {
		return "-"
	}
	return text
}

func codeTold(code int64) string {
	if code == impl.OK {
		return "ok"
	}
	return fmt.Sprint("error ", code)
}

func placeTold(out impl.EngineOut) string {
	if out.Code == impl.OK {
		return "ok"
	}
	return fmt.Sprint("error ", out.Code, " ", out.At, " ", orDash(out.Path))
}

// escapedByHand asks for a text without bytes beyond those of a sub.
func escapedByHand(text string) string {
	return strings.NewReplacer("|", `\F\`, "^", `\S\`, "~", `\R\`, `\`, `\E\`, "&", `\T\`).Replace(text)
}

func isSub(text string) bool {
	beyond := func(r rune) bool { return r < 32 || r > 126 }
	return len(text) <= 60 && strings.IndexFunc(text, beyond) < 0
}

// sheetLines are those of the Message of that number on a sheet.
func sheetLines(number int, version string) string {
	kind := "ADT^A01"
	if version != "2.3" {
		kind += "^ADT_A01"
	}
	return `MSH|^~\&|APP||||20260105||` + kind + "|" + strconv.Itoa(number) + "||" + escapedByHand(version) + "\rPID|||id||Smith\r"
}

func (h *handDesk) add(version string) string {
	if len(h.sheet) == 30 {
		return "error 9"
	}
	if !isSub(version) {
		return "error 1"
	}
	h.sheet = append(h.sheet, impl.MessageRead(sheetLines(len(h.sheet)+1, version)).Message)
	return "ok"
}

func (h *handDesk) put(path string, value string) string {
	read := pathByPattern(path)
	if read.Code != impl.OK {
		return "error 3"
	}
	if len(h.sheet) == 0 {
		return "error 6"
	}
	last := len(h.sheet) - 1
	out := impl.ValuePut(h.sheet[last], read.Path, value)
	if out.Code == impl.OK {
		h.sheet[last] = out.Message
	}
	return codeTold(out.Code)
}

func valueByHand(messages []impl.Message, path string) string {
	read := pathByPattern(path)
	if read.Code != impl.OK {
		return "error 3"
	}
	if len(messages) == 0 {
		return "error 6"
	}
	return orDash(impl.ValueAt(messages[len(messages)-1], read.Path))
}

func (h *handDesk) text() string {
	return textByHand(batched("sheet", batchOf("b", h.sheet...)))
}

// submit: on a store on which nothing is pending, what was put is there behind a crash once the last step of all is done.
func (h *handDesk) submit(id string, to string, steps string) impl.EngineOut {
	if !impl.NameRight(id) {
		return engineFault(impl.ErrForm, 0, "")
	}
	version, _ := strconv.ParseInt(to, 10, 64)
	out := translatedByHand(h.text(), version)
	if out.Code != impl.OK {
		return out
	}
	pairs := withPair(h.pairs, id, out.Text)
	text := pairsText(pairs...)
	if len(pairs) > 12 || len(text) > 19*64 {
		return engineFault(impl.ErrFull, 0, "")
	}
	if done, _ := strconv.Atoi(steps); done >= stepsNeeded(text) {
		h.pairs = pairs
	}
	return impl.EngineOut{}
}

// stepsNeeded: each Sector of a text, a flush, the head, and a flush.
func stepsNeeded(text string) int {
	return (len(text)+63)/64 + 3
}

func (h *handDesk) kept(id string) (pair, int64) {
	if !impl.NameRight(id) {
		return pair{}, impl.ErrForm
	}
	for _, p := range h.pairs {
		if p.id == id {
			return p, impl.OK
		}
	}
	return pair{}, impl.ErrNone
}

func (h *handDesk) fetch(id string, path string) string {
	p, code := h.kept(id)
	if code != impl.OK {
		return codeTold(code)
	}
	return valueByHand(fileByHand(p.text).File.Batches[0].Messages, path)
}

func (h *handDesk) forget(id string) string {
	_, code := h.kept(id)
	h.pairs = withoutPair(h.pairs, id)
	return codeTold(code)
}

func TestDeskWords(t *testing.T) {
	want := []string{"check", "fetch", "forget", "get", "names", "new", "set", "submit", "torn"}
	words := impl.DeskWords()
	check(t, "DeskWords", words, want)
	same(t, "rising", slices.IsSorted(words), true)
	for i := range words {
		words[i] = "x"
	}
	words = append(words[:0], "y", "z")
	check(t, "DeskWords, behind one that was written to", impl.DeskWords(), want)
	check(t, "what was written", words, []string{"y", "z"})
	checkMemory(t, "DeskWords", impl.DeskWords(), words, impl.DeskWords())
}

// shortLines: a line of each word, and what it tells ahead of all others.
func shortLines() map[string]string {
	return map[string]string{
		"check": "ok", "fetch a PID-3": "error 6", "forget a": "error 6", "get PID-3": "error 6", "names": "-", "new 2.3": "ok", "set PID-3 x": "error 6", "submit a 1": "ok", "torn a 1 1": "ok",
	}
}

func TestDeskOfOneLine(t *testing.T) {
	checkDesk(t, "", impl.DeskOut{})
	for line, told := range shortLines() {
		checkScript(t, line+" > "+told)
		checkDesk(t, line, deskFault(0))
		checkDesk(t, line+"\n"+line, deskFault(1))
	}
}

// A word too many and one too few, and an empty one at each place.
func TestDeskWordsOfALine(t *testing.T) {
	for line := range shortLines() {
		words := strings.Split(line, " ")
		wrong := []string{line + " x", line + " 1", line + " PID-3", line + " 1 1", line + " ", line + "  ", " " + line, "  " + line, line + " check", "x " + line, "1 " + line, line + " " + line, line + line}
		for i := range words {
			wrong = append(wrong, strings.Join(slices.Delete(slices.Clone(words), i, i+1), " "))
			wrong = append(wrong, strings.Join(slices.Insert(slices.Clone(words), i, ""), " "))
			if len(words) > 1 || i > 0 {
				wrong = append(wrong, strings.Join(slices.Replace(slices.Clone(words), i, i+1, ""), " "))
			}
			if i > 0 {
				wrong = append(wrong, strings.Join(words[:i], " "), strings.Join(words[:i], " ")+" ")
			}
		}
		for _, bad := range wrong {
			checkDesk(t, deskText(bad), deskFault(0))
			checkDesk(t, deskText("new 2.3", bad, "names"), deskFault(1))
		}
	}
}

// White space that is none of the two is a part of a word.
func TestDeskOtherWhiteSpace(t *testing.T) {
	for line := range shortLines() {
		for _, space := range []string{"\t", "\r", "\v", "\f", "\x00", "\u00a0", "\u2003", "\u0085", "\xff"} {
			wrong := []string{space + line, space, space + " " + line, strings.Replace(line, " ", space, 1)}
			for _, bad := range wrong {
				if bad != line {
					checkDesk(t, deskText(bad), deskFault(0))
				}
			}
		}
	}
	checkScript(t, "new 2.3\r > error 1", "new \t > error 1", "new \u2003 > error 1", "new \xff > error 1", "names > -", "forget a\t > error 1", "forget \r > error 1", "get PID-3\r > error 3", "set PID-3 \t > error 6", "submit a\t 1 > error 1 0 -", "torn a\t 1 1 > error 1", "fetch a\u00a0 PID-3 > error 1", "fetch a PID-3\r > error 6")
	checkDesk(t, "check\r\n", deskFault(0))
	checkDesk(t, "names\rnames\n", deskFault(0))
	checkDesk(t, "submit a 1\r\n", deskFault(0))
}

// wrongFirstWords are a word but for a letter, or its case.
func wrongFirstWords() []string {
	words := []string{"", "x", "help", "News", "CHECK", "run", "error", "ok", "-", "chec k", "drop", "put", "N", "ID", "merge"}
	for line := range shortLines() {
		word, _, _ := strings.Cut(line, " ")
		words = append(words, word+"s", "a"+word, word+word, strings.ToUpper(word), strings.ToUpper(word[:1])+word[1:], word+"\x00", word+",")
		for i := range word {
			words = append(words, word[:i]+word[i+1:], word[:i]+"z"+word[i+1:], word[:i]+strings.ToUpper(word[i:i+1])+word[i+1:], word[:i]+word[i:i+1]+word[i:])
		}
	}
	return words
}

func TestDeskOtherFirstWords(t *testing.T) {
	shorts := shortLines()
	for _, word := range wrongFirstWords() {
		for line := range shorts {
			_, behind, more := strings.Cut(line, " ")
			bad := word
			if more {
				bad = word + " " + behind
			}
			if _, right := shorts[bad]; !right && !rightLine.MatchString(bad) {
				checkDesk(t, deskText(bad), deskFault(0))
				checkDesk(t, deskText("check", "new 2.3", bad, bad), deskFault(2))
			}
		}
	}
}

// rightNumbers and wrongNumbers stand at the edges of a number in a line.
func rightDeskNumbers() []string {
	return []string{"0", "1", "2", "3", "4", "9", "10", "99", "100", "12345678", "99999999", "100000000", "123456789", "999999999"}
}

func wrongDeskNumbers() []string {
	return []string{"", "1000000000", "9999999999", "1234567890", "18446744073709551617", "00", "01", "007", "000000001", "0000000000", "+1", "-1", "-0", "+0", "1-", "a", "N", "1a", "a1", "0x1", "1.0", "1.", ".1", "1e1", "1_0", "1,0", "٣", "１", "²", "1\t", "\t1", "1\r", "\x001", "1\x00", "-", "'1'", strings.Repeat("9", 100), strings.Repeat("0", 9)}
}

func TestDeskNumbers(t *testing.T) {
	for _, number := range wrongDeskNumbers() {
		for _, line := range []string{"submit a %", "torn a % 1", "torn a 1 %", "torn a % %", "submit A %"} {
			bad := strings.ReplaceAll(line, "%", number)
			checkDesk(t, deskText(bad), deskFault(0))
			checkDesk(t, deskText("names", bad, "names"), deskFault(1))
		}
	}
	for _, number := range rightDeskNumbers() {
		version := len(number) == 1 && number >= "1" && number <= "3"
		submitted, torn := "error 8 0 -", "error 8"
		if version {
			submitted, torn = "ok", "ok"
		}
		checkScript(t, "submit a "+number+" > "+submitted, "torn b "+number+" 9 > "+torn, "torn c 1 "+number+" > ok")
	}
}

// Where a number is asked for, another word is none; elsewhere one may be any word.
func TestDeskAnyWords(t *testing.T) {
	for _, word := range []string{"x", "-", "0", "00", "1", "N", "check", "new", "ID", "PATH", "VALUE", "VERSION", "\x00", "\t", "é", "\xff", "|", "^~\\&", "a,b", strings.Repeat("w", 500)} {
		for _, form := range []string{"new %", "get %", "forget %", "set % x", "set PID-3 %", "set % %", "fetch % PID-3", "fetch a %", "fetch % %", "submit % 1", "torn % 1 1"} {
			line := strings.ReplaceAll(form, "%", word)
			text := deskText("new 2.3", "submit a 1", line)
			out := impl.DeskRun(text)
			check(t, named("DeskRun", text), out, deskByHand(text))
			same(t, named("code", text), out.Code, impl.OK)
		}
	}
}

func TestDeskFaultsOfLines(t *testing.T) {
	for _, bad := range []string{"", " ", "x", "check 1", "check ", "submit a x", "new", "checks"} {
		for at := range impl.MaxDesk {
			lines := slices.Repeat([]string{"new 2.3"}, impl.MaxDesk)
			lines[at] = bad
			checkDesk(t, deskText(lines...), deskFault(int64(at)))
			checkDesk(t, deskText(lines[:at+1]...), deskFault(int64(at)))
			// Of several lines the first one, whatever they are.
			lines = append(lines, "check", bad)
			lines[impl.MaxDesk-1] = bad
			checkDesk(t, deskText(lines...), deskFault(int64(at)))
			checkDesk(t, strings.TrimSuffix(deskText(lines...), "\n"), deskFault(int64(at)))
		}
	}
	for at := range impl.MaxDesk {
		lines := slices.Repeat([]string{"names"}, at+1)
		checkDesk(t, strings.Join(lines, "\n"), deskFault(int64(at)))
		checkDesk(t, strings.Join(lines, "\n")+"\n\n", deskFault(int64(at+1)))
		checkDesk(t, "\n"+deskText(lines...), deskFault(0))
	}
}

func TestDeskMostLines(t *testing.T) {
	for line, told := range map[string]string{"check": "ok", "names": "-", "new 2.3": "ok", "forget a": "error 6"} {
		most := slices.Repeat([]string{line}, impl.MaxDesk)
		checkDesk(t, deskText(most...), deskTold(slices.Repeat([]string{told}, impl.MaxDesk)...))
		for _, behind := range []string{line + "\n", line, "x\n", "x", "\n", " ", line + "\n" + line + "\n", "\n\n"} {
			checkDesk(t, deskText(most...)+behind, deskFault(impl.MaxDesk))
		}
		checkDesk(t, strings.Join(most, "\n"), deskFault(impl.MaxDesk-1))
		checkDesk(t, deskText(most[1:]...)+line, deskFault(impl.MaxDesk-1))
	}
}

func TestDeskSizes(t *testing.T) {
	size := impl.DeskOut{Code: impl.ErrSize}
	fill := func(form string, bytes int) string {
		return strings.Replace(form, "%", strings.Repeat("a", bytes-len(form)+1), 1)
	}
	for form, told := range map[string]string{
		"forget %\n": "error 1", "new %\n": "error 1", "get %\n": "error 3", "set % x\n": "error 3", "new 2.3\nset PID-3 %\n": "ok\nerror 1", "submit % 1\n": "error 1 0 -", "torn % 1 1\n": "error 1", "fetch % PID-3\n": "error 1", "submit a 1\nfetch a %\n": "ok\nerror 3", "fetch a %\n": "error 6",
	} {
		for bytes := impl.MaxBytes - 2; bytes <= impl.MaxBytes; bytes++ {
			text := fill(form, bytes)
			same(t, "bytes", len(text), bytes)
			checkDesk(t, text, deskTold(told))
		}
		for _, bytes := range []int{impl.MaxBytes + 1, impl.MaxBytes + 2, 3 * impl.MaxBytes} {
			checkDesk(t, fill(form, bytes), size)
		}
	}
	for _, text := range []string{huge(), strings.Repeat("\n", impl.MaxBytes+1), strings.Repeat("check\n", 2000), " " + strings.Repeat("x", impl.MaxBytes), strings.Repeat("\x00", 1<<20)} {
		checkDesk(t, text, size)
	}
	for _, text := range []string{strings.Repeat("x", impl.MaxBytes), strings.Repeat("\n", impl.MaxBytes), strings.Repeat(" ", impl.MaxBytes), strings.Repeat("\x00", impl.MaxBytes)} {
		checkDesk(t, text, deskFault(0))
	}
	checkDesk(t, strings.Repeat("check\n", impl.MaxBytes/6), deskFault(impl.MaxDesk))
}
