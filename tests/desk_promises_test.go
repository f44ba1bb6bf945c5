package tests

import (
	"fmt"
	"math/rand"
	"slices"
	"strings"
	"testing"

	"loop.example/g00416/impl"
)

func oneOf(random *rand.Rand, list []string) string {
	return list[random.Intn(len(list))]
}

// deskPlaces and deskValues: a good part of what is put keeps a Message in order, or keeps it from an elder version.
func deskPlaces() []string {
	return []string{"PID-5", "PID-5.2", "PID-3", "PID-3(2)", "PID-8", "PID-10", "PID-7", "PID-1", "MSH-18", "MSH-7", "MSH-4", "MSH-10", "MSH-12", "MSH-9.3", "PID-5.1.2", "PID-3.1.3", "PID-5(3)", "PV1-2", "PID[2]-3", "MSH-2", "PID-05", "x", "ZZZ-1", "PID-31"}
}

func deskValues() []string {
	return []string{"A", "X", "M", "Jones", "20260105", "202601051015", "20260105101530.5", "20260105101530+0100", "2.3", "2.5.1", "2.7", "1", "-2.5", "a&b", "x|y", `\F\`, "~^", "-", strings.Repeat("v", 60), strings.Repeat("w", 61), "\x00", "é"}
}

// randomLine is a right line, of each word now and then.
func randomLine(random *rand.Rand) string {
	look := oneOf(random, append(deskPlaces(), many("PID-5", 8)...))
	id := oneOf(random, []string{"a", "a", "a", "a", "a", "b", "b", "c", "some_id", "A", "-"})
	to := oneOf(random, []string{"1", "1", "2", "2", "3", "3", "0", "4"})
	switch random.Intn(14) {
	case 0, 1:
		return "new " + oneOf(random, []string{"2.3", "2.3", "2.3", "2.5.1", "2.5.1", "2.5.1", "2.7", "2.7", "2.7", "2.4", strings.Repeat("9", 61)})
	case 2:
		return "set " + oneOf(random, deskPlaces()) + " " + oneOf(random, deskValues())
	case 3, 4, 5:
		return "set " + oneOf(random, []string{"PID-5 Jones", "PID-5 Ann", "PID-8 A", "PID-10 c", "MSH-18 X", "PID-7 20260105", "PID-5.2 Ann", "PID-8 M"})
	case 6:
		return "get " + look
	case 7:
		return "check"
	case 8, 9:
		return "submit " + id + " " + to
	case 10:
		return "torn " + id + " " + to + " " + fmt.Sprint(random.Intn(12))
	case 11, 12:
		return "fetch " + id + " " + look
	}
	return oneOf(random, []string{"names", "forget " + id})
}

func randomDesk(random *rand.Rand) []string {
	lines := []string{"new " + oneOf(random, []string{"2.3", "2.5.1", "2.7"})}
	for range random.Intn(impl.MaxDesk) {
		lines = append(lines, randomLine(random))
	}
	return lines
}

// Promise 24: each line of a desk tells a line, one by one: the first ones tell the beginning of what all of them tell.
func TestPromise24LineByLine(t *testing.T) {
	random := rand.New(rand.NewSource(30))
	told := map[string]int{}
	for range 1200 {
		lines := randomDesk(random)
		text := deskText(lines...)
		out := impl.DeskRun(text)
		check(t, named("promise 24", text), out, deskByHand(text))
		check(t, named("promise 24, DeskFault", text), impl.DeskFault(text), impl.DeskOut{})
		answers := strings.SplitAfter(out.Text, "\n")
		same(t, named("promise 24, lines", text), len(answers), len(lines)+1)
		same(t, named("promise 24, the last line", text), answers[len(lines)], "")
		for i := range lines {
			word, _, _ := strings.Cut(lines[i], " ")
			told[word+" "+strings.Join(strings.Fields(answers[i])[:min(2, len(strings.Fields(answers[i])))], " ")]++
			if random.Intn(4) == 0 {
				part := impl.DeskRun(deskText(lines[:i]...))
				check(t, named("promise 24, the first ones", text), part, impl.DeskOut{Text: strings.Join(answers[:i], "")})
			}
		}
	}
	for _, answer := range []string{"new ok", "new error 1", "set ok", "set error 1", "set error 3", "set error 6", "get -", "get Jones", "get error 3", "check ok", "check error 12", "submit ok", "submit error 1", "submit error 8", "submit error 11", "submit error 12", "torn ok", "torn error 11", "torn error 12", "torn error 8", "fetch -", "fetch Smith", "fetch error 6", "fetch error 3", "forget ok", "forget error 6", "names -", "names a,b"} {
		if told[answer] < 5 {
			t.Errorf("told %q only %d times: %v", answer, told[answer], told)
		}
	}
}

// harmedDesk has a line that may be none, or bytes that are turned.
func harmedDesk(random *rand.Rand) string {
	lines := randomDesk(random)
	at := random.Intn(len(lines))
	switch random.Intn(6) {
	case 0:
		lines[at] += oneOf(random, []string{" ", " x", " 1", "\r", "x"})
	case 1:
		lines[at] = oneOf(random, []string{"", " ", "x", "NEW 2.3", "check 1", "torn a 1", "submit a 01", "submit a 1234567890"})
	case 2:
		lines = slices.Concat(lines, lines[:at+1], slices.Repeat([]string{"names"}, random.Intn(20)))
	case 3:
		return strings.TrimSuffix(deskText(lines...), "\n")
	}
	raw := []byte(deskText(lines...))
	for range random.Intn(3) {
		raw[random.Intn(len(raw))] = "\n\n  a1N\x00\xff"[random.Intn(9)]
	}
	return string(raw)
}

// A fault names its line, and tells nothing of the lines ahead.
func TestPromise24Faults(t *testing.T) {
	random := rand.New(rand.NewSource(31))
	lines := map[int64]int{}
	right := 0
	for range 4000 {
		text := harmedDesk(random)
		want := deskByHand(text)
		if want.Code != impl.OK {
			lines[want.Line]++
			same(t, "no Text", want.Text, "")
		} else {
			right++
		}
		checkDesk(t, text, want)
	}
	if right < 200 || lines[0] < 50 || lines[10] < 20 || lines[impl.MaxDesk-1] < 1 || lines[impl.MaxDesk] < 50 {
		t.Errorf("%d right, faults: %v", right, lines)
	}
}

func TestDeskOfAnything(t *testing.T) {
	random := rand.New(rand.NewSource(32))
	const alphabet = "new 2.3\nset PID-3 x\nnames\ncheck\n\r\t\x00\xff"
	for range 5000 {
		text := ""
		for range random.Intn(40) {
			text += alphabet[random.Intn(len(alphabet)):][:1]
		}
		if random.Intn(2) == 0 {
			text = "check\nnames\n" + text
		}
		checkDesk(t, text, deskByHand(text))
	}
}

// orderedSheet are lines that put Messages in order on a sheet, and the lines of these Messages as each version has them.
func orderedSheet(random *rand.Rand) ([]string, []string) {
	var lines, messages []string
	for number := range 1 + random.Intn(5) {
		version, name, day := oneOf(random, []string{"2.3", "2.5.1", "2.7"}), oneOf(random, []string{"Smith", "Jones", "a&b", "|~"}), ""
		lines = append(lines, "new "+version)
		if name != "Smith" {
			lines = append(lines, "set PID-5 "+name)
		}
		if random.Intn(2) == 0 {
			day = "||19991231"
			lines = append(lines, "set PID-7 19991231")
		}
		messages = append(messages, fmt.Sprint(`MSH|^~\&|APP||||20260105||KIND|`, number+1, "||VERSION\rPID|||id||", escapedByHand(name), day, "\r"))
	}
	return lines, messages
}

// Promise 25: Messages of a sheet go up to a version, and are fetched as of it.
func TestPromise25FetchedAsOfIt(t *testing.T) {
	random := rand.New(rand.NewSource(33))
	for range 200 {
		lines, messages := orderedSheet(random)
		for to := int64(1); to <= 3; to++ {
			last := impl.MessageRead(spelt(messages[len(messages)-1], "ADT^A01", to)).Message
			asked, answers := slices.Clone(lines), slices.Repeat([]string{"ok"}, len(lines))
			asked, answers = append(asked, fmt.Sprint("submit file ", to)), append(answers, "ok")
			for _, path := range []string{"MSH-12", "MSH-9", "MSH-9.2", "MSH-9.3", "MSH-10", "PID-3", "PID-5", "PID-7", "PID-8", "PV1-2"} {
				asked, answers = append(asked, "fetch file "+path), append(answers, orDash(impl.ValueAt(last, impl.PathRead(path).Path)))
			}
			same(t, "the version", answers[len(lines)+1], impl.VersionText(to))
			checkDesk(t, deskText(asked...), deskTold(answers...))
		}
	}
}

// elderCase: what a Message of a version has, and an elder one does not know.
type elderCase struct {
	version string
	sets    []string
	path    string
	upTo    int64
}

func elderCases() []elderCase {
	return []elderCase{
		{"2.5.1", []string{"set PID-8 A"}, "PID-8", 1}, {"2.7", []string{"set PID-8 N"}, "PID-8", 1}, {"2.5.1", []string{"set PID-10 c"}, "PID-10", 1}, {"2.7", []string{"set PID-10 c", "set PID-10.6 f"}, "PID-10", 1}, {"2.7", []string{"set PID-10 c", "set PID-10.7 g"}, "PID-10", 2}, {"2.5.1", []string{"set MSH-18 X"}, "MSH-18", 1}, {"2.7", []string{"set MSH-18 X", "set MSH-18(2) Y"}, "MSH-18", 1},
		{"2.5.1", []string{"set MSH-7 20260105101530.5"}, "MSH-7", 1}, {"2.7", []string{"set MSH-7 20260105+0100"}, "MSH-7", 2}, {"2.7", []string{"set PID-8 A", "set MSH-18 X"}, "MSH-18", 1}, {"2.7", []string{"set PID-10 c", "set MSH-7 20260105+0100"}, "MSH-7", 2},
	}
}

// Promise 25: one that has what an elder version does not know is named; nothing of it is kept, and what was there stays.
func TestPromise25Named(t *testing.T) {
	for _, c := range elderCases() {
		for ahead := range 4 {
			for behind := range 2 {
				lines := slices.Concat(slices.Repeat([]string{"new 2.3"}, ahead), []string{"new " + c.version}, c.sets, slices.Repeat([]string{"new 2.5.1"}, behind))
				rows := []string{"submit old 1 > ok"}
				for _, line := range lines {
					rows = append(rows, line+" > ok")
				}
				rows = append(rows, "check > ok")
				for to := int64(1); to <= 3; to++ {
					told, torn, names, fetched := "ok", "ok", "new,old", impl.VersionText(to)
					if to <= c.upTo {
						told, torn, names, fetched = fmt.Sprint("error 11 ", ahead, " ", c.path), "error 11", "old", "error 6"
					}
					rows := append(slices.Clone(rows), fmt.Sprint("torn new ", to, " 99 > ", torn), "names > "+names, "forget new > "+map[bool]string{true: "ok", false: "error 6"}[told == "ok"], fmt.Sprint("submit new ", to, " > ", told), "names > "+names, "fetch new MSH-12 > "+fetched, "fetch old MSH-12 > error 6", fmt.Sprint("submit old ", to, " > ", told), "fetch old MSH-12 > "+fetched)
					checkRows(t, rows...)
				}
			}
		}
	}
}
