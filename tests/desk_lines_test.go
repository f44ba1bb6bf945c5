package tests

import (
	"fmt"
	"slices"
	"strings"
	"testing"

	"loop.example/g00416/impl"
)

// All that a Message of each version has at first, and nothing beside.
func TestDeskNew(t *testing.T) {
	for _, c := range []struct{ version, third string }{{"2.3", "-"}, {"2.5.1", "ADT_A01"}, {"2.7", "ADT_A01"}, {"2.4", "ADT_A01"}, {"2.3.1", "ADT_A01"}, {"2.30", "ADT_A01"}, {"x", "ADT_A01"}, {"-", "ADT_A01"}, {"1", "ADT_A01"}} {
		rows := []string{"new " + c.version + " > ok", "get MSH-12 > " + c.version, "get MSH-9 > ADT", "get MSH-9.2 > A01", "get MSH-9.3 > " + c.third, "get MSH-3 > APP", "get MSH-7 > 20260105", "get MSH-10 > 1", "get PID-3 > id", "get PID-5 > Smith"}
		checkScript(t, rows...)
		rows = rows[:1]
		for _, path := range []string{"MSH-4", "MSH-5", "MSH-6", "MSH-8", "MSH-11", "MSH-13", "MSH-14", "MSH-18", "MSH-32", "MSH-3.2", "MSH-3.1.2", "MSH-3(2)", "MSH-7.2", "MSH-9.4", "MSH-9(2)", "MSH-10.2", "MSH-12.2", "MSH[2]-3", "PID-1", "PID-2", "PID-4", "PID-6", "PID-3.2", "PID-3(2)", "PID-5.2", "PID-5(2)", "PID[2]-3", "PV1-2", "ZZZ-1"} {
			rows = append(rows, "get "+path+" > -")
		}
		checkScript(t, rows...)
	}
}

// deskWith fills the lines into what a desk says ahead and behind of them.
func deskWith(ahead string, n int, behind ...string) []string {
	return append(slices.Repeat([]string{ahead}, n), behind...)
}

// The number is that on the sheet: what was refused, and what other lines did, is not counted.
func TestDeskNewNumbers(t *testing.T) {
	long := strings.Repeat("9", 61)
	checkScript(t, "new "+long+" > error 1", "new 2.3 > ok", "get MSH-10 > 1", "new "+long+" > error 1", "new é > error 1", "get MSH-10 > 1", "new 2.7 > ok", "get MSH-10 > 2", "set MSH-10 77 > ok", "get MSH-10 > 77", "set x y > error 3", "names > -", "check > ok", "new 2.5.1 > ok", "get MSH-10 > 3", "new 2.3\x7f > error 1", "submit a 1 > ok", "forget a > ok", "new 2.3 > ok", "get MSH-10 > 4")
	for n := 1; n < impl.MaxDesk; n++ {
		checkScript(t, deskWith("new 2.3 > ok", n, fmt.Sprint("get MSH-10 > ", n))...)
	}
	// The 30th is the last that a desk has lines for.
	most := slices.Repeat([]string{"new 2.5.1"}, impl.MaxDesk)
	checkDesk(t, deskText(most...), deskTold(slices.Repeat([]string{"ok"}, impl.MaxDesk)...))
	checkDesk(t, deskText(append(most, "new 2.5.1")...), deskFault(impl.MaxDesk))
}

// A VERSION is a sub of MSH: of at most 60 bytes, each 32 to 126, and with its marks escaped.
func TestDeskNewVersions(t *testing.T) {
	for _, version := range []string{strings.Repeat("v", 60), strings.Repeat("|", 60), "|^~\\&", `\F\`, "!", "~", "2.3|x", "2.3^x", "2.3~x", "2.3&x", "%\\"} {
		checkScript(t, "new "+version+" > ok", "get MSH-12 > "+version, "get MSH-12.2 > -", "get MSH-12(2) > -", "get MSH-12.1.2 > -", "get MSH-13 > -", "get MSH-9.3 > ADT_A01", "check > error 12 0 MSH-12", "submit a 1 > error 12 0 MSH-12", "torn a 1 9 > error 12", "names > -")
	}
	for _, version := range []string{strings.Repeat("v", 61), strings.Repeat("v", 1000), "\t", "2.3\x1f", "2.3\x7f", "\x80", "é", "2.3\r", "\x00", "2.3\x00"} {
		checkScript(t, "new "+version+" > error 1", "get MSH-12 > error 6", "check > ok", "new 2.3 > ok", "new "+version+" > error 1", "get MSH-12 > 2.3", "get MSH-10 > 1")
	}
}

// Paths that are none, told ahead of a Message that lacks.
func TestDeskPaths(t *testing.T) {
	for _, path := range append(brokenPaths(), "x", "MSH-2", "MSH-1", "MSH-33", "PID-0", "PID-31", "PID", "PID-", "PID-3.1", "PID-03", "pid-3", "PID[1]-3", "PID-3(1)", "PID-3.1.1", "PID-3.21", "PID[21]-3", "-", "1") {
		if path == "" || strings.ContainsAny(path, " \n") || len(path) > 1000 {
			continue
		}
		for _, rows := range [][]string{nil, {"new 2.3 > ok"}, {"new 2.3 > ok", "submit a 1 > ok"}} {
			told := "error 6"
			if len(rows) == 2 {
				told = "error 3"
			}
			checkScript(t, append(rows, "get "+path+" > error 3", "set "+path+" x > error 3", "set "+path+" \x00 > error 3", "fetch a "+path+" > "+told)...)
		}
	}
	for path := range rightPaths() {
		checkScript(t, "get "+path+" > error 6", "set "+path+" x > error 6", "set "+path+" \x00 > error 6", "set "+path+" "+strings.Repeat("x", 61)+" > error 6", "fetch a "+path+" > error 6", "submit a 1 > ok", "fetch a "+path+" > error 6")
	}
}

// Each code that ValuePut tells, and what then stands there: beside a code the Message stays as it is.
func TestDeskSet(t *testing.T) {
	checkScript(t, "new 2.3 > ok",
		"set PID-3 x > ok", "get PID-3 > x", "set PID-3.2.2 y > ok", "get PID-3.2.2 > y", "get PID-3.2 > -", "get PID-3 > x",
		"set PID-3(2) z > ok", "get PID-3(2) > z", "get PID-3(3) > -", "set PID-30 end > ok", "get PID-30 > end", "set MSH-32 end > ok", "get MSH-32 > end",
		"set PID-3(5).10.5 w > ok", "get PID-3(5).10.5 > w", "set PID-3(6) x > error 8", "set PID-3.11 x > error 8", "set PID-3.1.6 x > error 8",
		"get PID-3(6) > -", "get PID-3.11 > -", "get PID-3.1.6 > -", "get PID-3 > x")
	checkScript(t, "new 2.3 > ok", "set PV1-2 x > error 6", "set PID[2]-3 x > error 6", "set MSH[2]-3 x > error 6", "set ZZZ-1 x > error 6", "set PV1-2 \x00 > error 1", "set PV1(2)-2 x > error 3", "set PV1-2(6) x > error 6", "get PV1-2 > -")
	for _, value := range []string{strings.Repeat("v", 61), "\x00", "\t", "a\x1f", "a\x7f", "é", "\xff", "\r", strings.Repeat("v", 1000)} {
		checkScript(t, "new 2.3 > ok", "set PID-5 "+value+" > error 1", "get PID-5 > Smith", "set PV1-2 "+value+" > error 1", "set PID-5(6) "+value+" > error 1", "set x "+value+" > error 3", "get PID-5 > Smith")
		checkScript(t, "set PID-5 "+value+" > error 6", "set x "+value+" > error 3")
	}
}

// What is a mark stands escaped in the text, and is told as it was put, also once it was submitted.
func TestDeskSetMarks(t *testing.T) {
	for _, value := range []string{"|", "^", "~", `\`, "&", "|^~\\&", `\F\`, `a\T\b`, `\\`, "a&b", "x|y^z~w\\v&u", strings.Repeat("|", 60), strings.Repeat("~", 59) + "a", "-", "--", "ok", "!\"#$%'()*+,-./:;<=>?@[]_`{}"} {
		for _, path := range []string{"PID-5", "PID-5.2", "PID-3(2)", "MSH-4", "MSH-6"} {
			checkScript(t, "new 2.3 > ok", "set "+path+" "+value+" > ok", "get "+path+" > "+value, "check > ok", "submit a 3 > ok", "fetch a "+path+" > "+value, "fetch a PID-3 > id", "get "+path+" > "+value)
		}
	}
}

// The last Message alone is turned, and told.
func TestDeskSetLast(t *testing.T) {
	checkScript(t, "new 2.3 > ok", "set PID-5 One > ok", "new 2.3 > ok", "get PID-5 > Smith", "set PID-5 Two > ok", "get PID-5 > Two", "new 2.5.1 > ok", "get PID-5 > Smith", "get MSH-12 > 2.5.1", "set MSH-12 2.7 > ok", "get MSH-12 > 2.7", "get MSH-10 > 3", "check > ok", "submit a 1 > ok", "fetch a MSH-12 > 2.3", "fetch a PID-5 > Smith")
	// A fault that was put to each of three is named there, and nowhere else.
	for bad := range 3 {
		var rows []string
		for at := range 3 {
			rows = append(rows, "new 2.3 > ok")
			if at == bad {
				rows = append(rows, "set PID-7 x > ok", "get PID-7 > x")
			}
		}
		checkScript(t, append(rows, fmt.Sprint("check > error 12 ", bad, " PID-7"), "submit a 2 > error 12 "+fmt.Sprint(bad)+" PID-7", "names > -")...)
	}
}

// Of a sheet in order, and of faults in the first Message, a later one, and several.
func TestDeskCheck(t *testing.T) {
	checkScript(t, "check > ok", "new 2.3 > ok", "check > ok", "new 2.7 > ok", "check > ok", "set PID-8 A > ok", "check > ok", "new 2.3 > ok", "set PID-8 A > ok", "check > error 12 2 PID-8", "set PID-8 M > ok", "check > ok", "new 2.4 > ok", "check > error 12 3 MSH-12", "set MSH-12 2.5.1 > ok", "check > ok", "set MSH-12 2.3 > ok", "check > error 12 3 MSH-9", "new 2.4 > ok", "check > error 12 3 MSH-9")
	for path, value := range map[string]string{"MSH-7": "2026", "MSH-9": "AD", "MSH-18": "x", "PID-1": "01", "PID-4": "x", "PID-7": "20260230", "PID-8": "m", "PID-10": "x", "MSH-9.3": "ADT_A01", "PID-30": "x", "MSH-32": "x"} {
		place, _, _ := strings.Cut(path, ".")
		checkScript(t, "new 2.3 > ok", "set "+path+" "+value+" > ok", "check > error 12 0 "+place, "new 2.3 > ok", "check > error 12 0 "+place, "submit a 1 > error 12 0 "+place, "torn a 2 99 > error 12", "fetch a PID-3 > error 6", "names > -")
		checkScript(t, "new 2.7 > ok", "new 2.3 > ok", "set "+path+" "+value+" > ok", "check > error 12 1 "+place, "new 2.4 > ok", "check > error 12 1 "+place, "submit a 3 > error 12 1 "+place)
	}
}

// To each version, and to a number that is none; an ID that is no name, and one that is there.
func TestDeskSubmit(t *testing.T) {
	for from, of := range map[string]string{"1": "2.3", "2": "2.5.1", "3": "2.7"} {
		for to, version := range map[string]string{"1": "2.3", "2": "2.5.1", "3": "2.7"} {
			third := "ADT_A01"
			if to == "1" {
				third = "-"
			}
			checkScript(t, "new "+of+" > ok", "submit a "+to+" > ok", "names > a", "fetch a MSH-12 > "+version, "fetch a MSH-9.3 > "+third, "fetch a PID-5 > Smith", "get MSH-12 > "+of, "submit b "+from+" > ok", "fetch b MSH-12 > "+of, "names > a,b")
		}
		for _, none := range []string{"0", "4", "5", "10", "251", "999999999"} {
			checkScript(t, "new "+of+" > ok", "submit a "+none+" > error 8 0 -", "torn a "+none+" 99 > error 8", "names > -", "fetch a PID-3 > error 6")
			checkScript(t, "submit a "+none+" > error 8 0 -", "new 2.4 > ok", "submit a "+none+" > error 8 0 -")
		}
	}
	for _, id := range wrongIds() {
		if id != "" && !strings.Contains(id, " ") && len(id) < 100 {
			checkScript(t, "new 2.3 > ok", "submit "+id+" 1 > error 1 0 -", "torn "+id+" 1 99 > error 1", "names > -", "fetch "+id+" PID-3 > error 1", "fetch "+id+" x > error 1", "forget "+id+" > error 1", "submit "+id+" 9 > error 1 0 -", "set PID-7 x > ok", "submit "+id+" 1 > error 1 0 -", "torn "+id+" 1 0 > error 1")
		}
	}
	for _, id := range rightIds() {
		checkScript(t, "new 2.3 > ok", "submit "+id+" 1 > ok", "names > "+id, "fetch "+id+" PID-3 > id", "forget "+id+" > ok", "names > -", "torn "+id+" 1 99 > ok", "names > "+id)
	}
}

// Submitted twice, the later text is there; what is then not brought over leaves that one.
func TestDeskSubmitAgain(t *testing.T) {
	checkScript(t, "submit a 1 > ok", "fetch a PID-3 > error 6", "new 2.3 > ok", "set PID-5 One > ok", "submit a 1 > ok", "fetch a PID-5 > One", "set PID-5 Two > ok", "fetch a PID-5 > One", "submit a 2 > ok", "fetch a PID-5 > Two", "fetch a MSH-12 > 2.5.1", "names > a", "submit b 3 > ok", "set PID-7 x > ok", "submit a 1 > error 12 0 PID-7", "fetch a PID-5 > Two", "fetch a PID-7 > -", "fetch b MSH-12 > 2.7", "names > a,b", "set PID-7 20260101 > ok", "submit a 9 > error 8 0 -", "fetch a PID-7 > -", "submit a 3 > ok", "fetch a PID-7 > 20260101", "fetch b PID-7 > -")
}

// What an elder version does not have is named: error, code, At, and Path; all steps or none, it is not kept.
func TestDeskSubmitCarry(t *testing.T) {
	for path, value := range map[string]string{"PID-10": "c", "PID-8": "A", "MSH-18": "X"} {
		checkScript(t, "new 2.5.1 > ok", "set "+path+" "+value+" > ok", "check > ok", "submit a 1 > error 11 0 "+path, "torn a 1 99 > error 11", "torn a 1 0 > error 11", "names > -", "fetch a PID-3 > error 6", "submit a 2 > ok", "submit a 3 > ok", "fetch a "+path+" > "+value, "submit a 1 > error 11 0 "+path, "fetch a MSH-12 > 2.7")
		checkScript(t, "new 2.3 > ok", "new 2.7 > ok", "new 2.7 > ok", "set "+path+" "+value+" > ok", "new 2.7 > ok", "set "+path+" "+value+" > ok", "submit a 1 > error 11 2 "+path, "submit a 2 > ok", "fetch a "+path+" > "+value)
	}
	checkScript(t, "new 2.7 > ok", "set PID-3(2) x > ok", "set MSH-7 20260105101530.5+0100 > ok", "submit a 1 > error 11 0 MSH-7", "submit a 2 > error 11 0 MSH-7", "submit a 3 > ok", "fetch a MSH-7 > 20260105101530.5+0100", "set MSH-7 20260105 > ok", "submit a 1 > ok", "fetch a PID-3(2) > x")
}

// Twelve are kept, and no more; one of them takes another text, and one that is let go makes room.
func TestDeskSubmitMost(t *testing.T) {
	var rows []string
	ids := ""
	for i := range impl.MaxKept {
		id := string(rune('l' - i))
		rows = append(rows, "submit "+id+" 1 > ok")
		ids = id + "," + ids
	}
	ids = strings.TrimSuffix(ids, ",")
	checkScript(t, append(rows, "names > "+ids, "submit m 1 > error 9 0 -", "torn m 1 99 > error 9", "torn m 1 0 > error 9", "submit M 1 > error 1 0 -", "submit m 4 > error 8 0 -", "names > "+ids, "new 2.3 > ok", "submit l 2 > ok", "fetch l PID-5 > Smith", "fetch k PID-5 > error 6", "forget l > ok", "submit m 1 > ok", "names > "+strings.TrimSuffix(ids, "l")+"m", "fetch m PID-5 > Smith")...)
}

// roomLines leave a Message of many bytes, and tell what a store's text has, once its File alone is kept at a version by an id of one.
func roomLines(more int, to int64) ([]string, int) {
	lines := []string{"new 2.3"}
	put := func(path string, size int) {
		lines = append(lines, "set "+path+" "+strings.Repeat("v", size))
	}
	for rep := range int64(4) {
		for comp := range int64(4) {
			put(impl.PathText(place("PID", 1, 5, rep+1, comp+1, 1)), 60)
		}
	}
	put("MSH-4", 60)
	put("MSH-5", 50)
	put("MSH-6", more)
	h := handDesk{}
	for _, line := range lines {
		h.tell(strings.Split(line, " "))
	}
	return lines, len(pairsText(pair{"a", translatedByHand(h.text(), to).Text}))
}

// The store has room for 19 Sectors of 64 bytes: so many are kept, and one more is not.
func TestDeskSubmitRoom(t *testing.T) {
	const room = 19 * 64
	bytesSeen := map[int]bool{}
	for more := 1; more <= 60; more++ {
		for to := int64(1); to <= 3; to++ {
			lines, bytes := roomLines(more, to)
			told, torn, left, again := "ok", "ok", "a", "error 9 0 -"
			if bytes > room {
				told, torn, left = "error 9 0 -", "error 9", "-"
			}
			bytesSeen[bytes] = true
			answers := append(slices.Repeat([]string{"ok"}, len(lines)), told, left, again, left, torn, left)
			lines = append(lines, fmt.Sprint("submit a ", to), "names", "submit bb 2", "names", fmt.Sprint("torn a ", to, " 99"), "names")
			checkDesk(t, deskText(lines...), deskTold(answers...))
		}
	}
	for bytes := room - 3; bytes <= room+3; bytes++ {
		same(t, fmt.Sprint("seen: ", bytes), bytesSeen[bytes], true)
	}
}
