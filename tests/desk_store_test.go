package tests

import (
	"fmt"
	"slices"
	"strings"
	"testing"

	"loop.example/g00416/impl"
)

// sheetFile is the File of a sheet of these Messages, by its lines.
func sheetFile(messages ...string) string {
	return lined(`FHS|^~\&|sheet`, `BHS|^~\&|b`) + strings.Join(messages, "") + lined(fmt.Sprint("BTS|", len(messages)), "FTS|1")
}

// stepsOfFile: how many there are of putting a File by an id of one, beside others that are kept.
func stepsOfFile(text string, others ...pair) int {
	return stepsNeeded(pairsText(withPair(others, "b", text)...))
}

// Wherever the power goes, the store is as it was, or has the file: each number of steps, from none to all and more.
func TestDeskTorn(t *testing.T) {
	one := sheetFile(sheetLines(1, "2.3"))
	two := sheetFile(strings.ReplaceAll(sheetLines(1, "2.3"), "ADT^A01|1||2.3", "ADT^A01^ADT_A01|1||2.5.1"), sheetLines(2, "2.5.1"))
	beside := pair{"a", one}
	all, more := stepsOfFile(one, beside), stepsOfFile(two, beside)
	if all != 7 || more != 8 {
		t.Fatalf("%d steps, and %d", all, more)
	}
	for steps := range 14 {
		names, fetched, later := "a", "error 6", "Smith"
		if steps >= all {
			names, fetched = "a,b", "Smith"
		}
		if steps >= more {
			later = "Two"
		}
		checkScript(t, "new 2.3 > ok", "submit a 1 > ok", fmt.Sprint("torn b 1 ", steps, " > ok"), "names > "+names, "fetch b PID-5 > "+fetched, "fetch a PID-5 > Smith", "check > ok",
			"submit b 1 > ok", "names > a,b", "new 2.5.1 > ok", "set PID-5 Two > ok", fmt.Sprint("torn b 2 ", steps, " > ok"), "names > a,b", "fetch b PID-5 > "+later, "fetch a PID-5 > Smith", "submit b 2 > ok", "fetch b PID-5 > Two", "fetch b MSH-12 > 2.5.1", "forget b > ok", "names > a")
	}
	for _, steps := range []string{"100", "123456789", "999999999"} {
		checkScript(t, "new 2.3 > ok", "torn b 1 "+steps+" > ok", "fetch b PID-5 > Smith", "names > b")
	}
	// Of an empty store and sheet: a text of one Sector has four steps.
	for steps := range 7 {
		names, fetched := "-", "error 6"
		if steps >= 4 {
			names, fetched = "b", "error 6"
		}
		checkScript(t, fmt.Sprint("torn b 3 ", steps, " > ok"), "names > "+names, "fetch b PID-5 > "+fetched, fmt.Sprint("torn b 4 ", steps, " > error 8"), "names > "+names)
	}
}

// What was torn again and again, or beside what is kept, leaves a store that goes on.
func TestDeskTornAgain(t *testing.T) {
	checkScript(t, "new 2.3 > ok", "torn a 1 0 > ok", "torn a 1 1 > ok", "torn a 1 2 > ok", "torn a 1 3 > ok", "torn a 1 4 > ok", "torn a 1 1 > ok", "names > -", "forget a > error 6", "torn a 1 9 > ok", "names > a", "set PID-5 Two > ok", "torn a 1 3 > ok", "fetch a PID-5 > Smith", "torn b 1 3 > ok", "names > a", "torn a 2 9 > ok", "fetch a PID-5 > Two", "torn b 3 99 > ok", "names > a,b", "forget a > ok", "torn a 1 2 > ok", "names > b", "fetch b MSH-12 > 2.7", "forget b > ok", "names > -")
}

// Fetch's code ahead of the path's, and that ahead of a file without Messages.
func TestDeskFetch(t *testing.T) {
	checkScript(t, "submit a 1 > ok", "fetch a PID-3 > error 6", "fetch a x > error 3", "fetch b x > error 6", "fetch A x > error 1", "fetch A PID-3 > error 1", "fetch b PID-3 > error 6",
		"new 2.3 > ok", "fetch a PID-3 > error 6", "fetch a x > error 3", "submit a 1 > ok", "fetch a x > error 3", "fetch a PID-3 > id", "fetch a PID-4 > -", "fetch a PID-3.2 > -", "fetch a PV1-2 > -", "fetch a PID[2]-3 > -", "fetch b x > error 6", "fetch A x > error 1", "fetch b PID-3 > error 6")
	// The last Message of the file, not of the sheet, and of the version that it was brought to.
	checkScript(t, "new 2.3 > ok", "set PID-5 One > ok", "new 2.5.1 > ok", "set PID-5 Two > ok", "submit a 3 > ok", "new 2.3 > ok", "set PID-5 Three > ok", "fetch a PID-5 > Two", "fetch a MSH-12 > 2.7", "fetch a MSH-10 > 2", "get MSH-10 > 3", "submit b 1 > ok", "fetch b PID-5 > Three", "fetch b MSH-12 > 2.3", "fetch b MSH-10 > 3", "fetch a PID-5 > Two", "set PID-5 Four > ok", "fetch b PID-5 > Three", "get PID-5 > Four")
}

func TestDeskForgetAndNames(t *testing.T) {
	checkScript(t, "names > -", "forget a > error 6", "forget A > error 1", "submit b 1 > ok", "names > b", "submit a 1 > ok", "names > a,b", "submit aa 1 > ok", "submit a_ 1 > ok", "submit a0 1 > ok", "names > a,a0,a_,aa,b", "forget c > error 6", "forget B > error 1", "forget a > ok", "names > a0,a_,aa,b", "forget a > error 6", "submit z 9 > error 8 0 -", "names > a0,a_,aa,b", "torn c 1 2 > ok", "names > a0,a_,aa,b", "torn c 1 9 > ok", "names > a0,a_,aa,b,c", "forget b > ok", "forget c > ok", "forget a_ > ok", "forget aa > ok", "forget a0 > ok", "names > -", "forget a0 > error 6", "names > -")
	checkScript(t, "new 2.3 > ok", "submit a 2 > ok", "set PID-5 Two > ok", "submit b 2 > ok", "forget a > ok", "fetch a PID-5 > error 6", "fetch b PID-5 > Two", "get PID-5 > Two", "submit a 1 > ok", "fetch a MSH-12 > 2.3", "fetch b MSH-12 > 2.5.1", "names > a,b")
	longest := twenty("n")
	checkScript(t, "submit "+longest+" 1 > ok", "names > "+longest, "forget "+longest[:19]+" > error 6", "forget "+longest+"n > error 1", "forget "+longest+" > ok", "names > -")
}

// Nothing of the lines ahead is told beside a code, and nothing that they did is there in another call.
func TestDeskKeepsNothing(t *testing.T) {
	text := deskText("new 2.3", "set PID-5 One", "submit a 1", "torn b 1 99", "names", "fetch a PID-5", "get MSH-10")
	want := deskTold("ok", "ok", "ok", "ok", "a,b", "One", "1")
	for _, other := range []string{deskText("names", "get PID-5", "fetch a PID-3", "forget a", "check"), text + "names", text + "x\n", deskText("new 2.7", "new 2.7", "submit a 3", "submit c 3"), huge()} {
		checkDesk(t, text, want)
		impl.DeskRun(other)
		impl.DeskFault(other)
		impl.DeskWords()
	}
	checkDesk(t, deskText("names", "get PID-5", "new 2.3", "get MSH-10"), deskTold("-", "error 6", "ok", "1"))
	checkDesk(t, text+"x\n", deskFault(7))
	checkDesk(t, text+"names", deskFault(7))
	checkDesk(t, text, want)
}

// An answer shares no memory with the text, and none with another answer.
func TestDeskMemory(t *testing.T) {
	value := strings.Repeat("value", 12)
	for _, lines := range [][]string{
		{"new 2.3", "get PID-5"}, {"new 2.3", "set PID-5 " + value, "get PID-5"}, {"submit some_id 1", "names"}, {"new 2.3", "set PID-5 " + value, "submit some_id 2", "fetch some_id PID-5", "names"}, {"check"}, {"names"}, {"new " + value, "check", "get MSH-12"}, {"get PID-5"},
	} {
		text := strings.Clone(deskText(lines...))
		before := strings.Clone(text)
		out, fault := impl.DeskRun(text), impl.DeskFault(text)
		checkMemory(t, named("DeskRun", text), out, text, impl.DeskRun(text))
		checkMemory(t, named("DeskFault", text), fault, text, out)
		same(t, "handed in", text, before)
	}
	for _, text := range []string{strings.Clone("names"), strings.Clone("check\nx\n"), huge()} {
		checkMemory(t, named("DeskRun", text), impl.DeskRun(text), text)
	}
	words := impl.DeskWords()
	for i := range words {
		checkMemory(t, "a word", words[i], slices.Delete(slices.Clone(words), i, i+1))
	}
}
