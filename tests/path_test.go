package tests

import (
	"math"
	"regexp"
	"strconv"
	"strings"
	"testing"

	"loop.example/g00416/impl"
)

// place: a Path of all its numbers, in the order in which they stand in its text.
func place(seg string, nth int64, field int64, rep int64, comp int64, sub int64) impl.Path {
	return impl.Path{Seg: seg, Nth: nth, Field: field, Rep: rep, Comp: comp, Sub: sub}
}

// same holds numbers against each other too, of which check sees no more than the characters that they stand for.
func same[T comparable](t *testing.T, what string, got T, want T) {
	t.Helper()
	if got != want {
		t.Errorf("%s: got %+v, want %+v", what, got, want)
	}
}

// first: the first Sub of that Field of the first Segment of that Name.
func first(seg string, field int64) impl.Path { return place(seg, 1, field, 1, 1, 1) }

func pathTold(p impl.Path) impl.PathOut     { return impl.PathOut{Path: p} }
func pathFault(code int64) impl.PathOut     { return impl.PathOut{Code: code} }
func pid(fields ...impl.Field) impl.Message { return headed(segmentOf("PID", fields...)) }

// rightPaths, by their texts, stand at the edges that chapter 6 names.
func rightPaths() map[string]impl.Path {
	return map[string]impl.Path{
		"PID-1":                place("PID", 1, 1, 1, 1, 1),
		"PID-2":                place("PID", 1, 2, 1, 1, 1),
		"PID-9":                place("PID", 1, 9, 1, 1, 1),
		"PID-10":               place("PID", 1, 10, 1, 1, 1),
		"PID-30":               place("PID", 1, 30, 1, 1, 1),
		"MSH-3":                place("MSH", 1, 3, 1, 1, 1),
		"MSH-4":                place("MSH", 1, 4, 1, 1, 1),
		"MSH-31":               place("MSH", 1, 31, 1, 1, 1),
		"MSH-32":               place("MSH", 1, 32, 1, 1, 1),
		"MSH[2]-3":             place("MSH", 2, 3, 1, 1, 1),
		"MSG-1":                place("MSG", 1, 1, 1, 1, 1),
		"A00-1":                place("A00", 1, 1, 1, 1, 1),
		"ZZ9-1":                place("ZZ9", 1, 1, 1, 1, 1),
		"PID[2]-1":             place("PID", 2, 1, 1, 1, 1),
		"PID[20]-1":            place("PID", 20, 1, 1, 1, 1),
		"PID-1(2)":             place("PID", 1, 1, 2, 1, 1),
		"PID-1(20)":            place("PID", 1, 1, 20, 1, 1),
		"PID-1.2":              place("PID", 1, 1, 1, 2, 1),
		"PID-1.20":             place("PID", 1, 1, 1, 20, 1),
		"PID-1.1.2":            place("PID", 1, 1, 1, 1, 2),
		"PID-1.1.20":           place("PID", 1, 1, 1, 1, 20),
		"PID-1.2.2":            place("PID", 1, 1, 1, 2, 2),
		"PID-1(2).3":           place("PID", 1, 1, 2, 3, 1),
		"PID-1(2).1.3":         place("PID", 1, 1, 2, 1, 3),
		"PID[2]-1(3)":          place("PID", 2, 1, 3, 1, 1),
		"PID[2]-1.3":           place("PID", 2, 1, 1, 3, 1),
		"PID[2]-1.1.3":         place("PID", 2, 1, 1, 1, 3),
		"PID[2]-3(4).5.6":      place("PID", 2, 3, 4, 5, 6),
		"PID[11]-12(13).14.15": place("PID", 11, 12, 13, 14, 15),
		"PID[20]-30(20).20.20": place("PID", 20, 30, 20, 20, 20),
		"MSH[20]-32(20).20.20": place("MSH", 20, 32, 20, 20, 20),
		"MSH-9.3":              place("MSH", 1, 9, 1, 3, 1),
		"PID[19]-29(19).19.19": place("PID", 19, 29, 19, 19, 19),
		"PV1[10]-10(10).10.10": place("PV1", 10, 10, 10, 10, 10),
		"OBX[9]-9(9).9.9":      place("OBX", 9, 9, 9, 9, 9),
		"PID[2]-2(2).2.2":      place("PID", 2, 2, 2, 2, 2),
		"Z11[11]-11(11).11.11": place("Z11", 11, 11, 11, 11, 11),
		"PID[12]-21(12).1.12":  place("PID", 12, 21, 12, 1, 12),
		"PID[3]-20(10).1.10":   place("PID", 3, 20, 10, 1, 10),
	}
}

// wrongNumbers are none that a place's parts may have.
func wrongNumbers() []int64 {
	return []int64{0, -1, -2, -20, 21, 22, 33, 100, math.MaxInt64, math.MinInt64, math.MinInt64 + 1, 1 << 32, 1<<32 + 1, 1<<63 - 20}
}

// wrongPaths stand a step beyond those edges.
func wrongPaths() []impl.Path {
	list := []impl.Path{{}, {Seg: "PID"}, place("PID", 1, 31, 1, 1, 1), place("MSG", 1, 31, 1, 1, 1), place("MSH", 1, 1, 1, 1, 1), place("MSH", 1, 2, 1, 1, 1), place("MSH", 1, 33, 1, 1, 1)}
	for _, n := range wrongNumbers() {
		list = append(list, place("PID", n, 1, 1, 1, 1), place("PID", 1, 1, n, 1, 1), place("PID", 1, 1, 1, n, 1), place("PID", 1, 1, 1, 1, n))
		list = append(list, place("MSH", n, 3, 1, 1, 1), place("MSH", 1, 3, n, 1, 1), place("MSH", 1, 3, 1, n, 1), place("MSH", 1, 3, 1, 1, n))
		if n < 1 || n > 33 {
			list = append(list, first("PID", n), first("MSH", n))
		}
	}
	for _, seg := range []string{"", "P", "PI", "PIDS", "pid", "Pid", "PId", "1ID", "999", "0AB", "P D", "P_D", "P-D", "PI@", "PI[", "PI/", "PI:", "@ID", "[ID", "éA", "P\xffD", "msh", "MSHX", " MSH", strings.Repeat("P", impl.MaxBytes), strings.ToUpper(huge())} {
		list = append(list, first(seg, 1), first(seg, 3))
	}
	return list
}

func TestPathRight(t *testing.T) {
	for text, p := range rightPaths() {
		same(t, "PathRight: "+text, impl.PathRight(p), true)
	}
	for _, p := range wrongPaths() {
		same(t, named("PathRight", p), impl.PathRight(p), false)
	}
}

// Each part alone, through all the numbers about its edges.
func TestPathRightEachNumber(t *testing.T) {
	for n := int64(-40); n <= 60; n++ {
		small := n >= 1 && n <= 20
		for what, p := range map[string]impl.Path{
			"Nth": place("PID", n, 1, 1, 1, 1), "Rep": place("PID", 1, 1, n, 1, 1), "Comp": place("PID", 1, 1, 1, n, 1), "Sub": place("PID", 1, 1, 1, 1, n),
			"Nth of MSH": place("MSH", n, 3, 1, 1, 1), "Rep of MSH": place("MSH", 1, 3, n, 1, 1), "Comp of MSH": place("MSH", 1, 3, 1, n, 1), "Sub of MSH": place("MSH", 1, 3, 1, 1, n),
		} {
			same(t, named("PathRight by "+what, n), impl.PathRight(p), small)
		}
		same(t, named("PathRight by Field", n), impl.PathRight(first("PID", n)), n >= 1 && n <= 30)
		same(t, named("PathRight by Field of MSH", n), impl.PathRight(first("MSH", n)), n >= 3 && n <= 32)
	}
}

func TestPathText(t *testing.T) {
	for text, p := range rightPaths() {
		same(t, named("PathText", p), impl.PathText(p), text)
	}
	for _, p := range wrongPaths() {
		same(t, named("PathText", p), impl.PathText(p), "")
	}
}

func TestPathRead(t *testing.T) {
	for text, p := range rightPaths() {
		same(t, named("PathRead", text), impl.PathRead(text), pathTold(p))
	}
}

// brokenPaths are no right Path's text.
func brokenPaths() []string {
	list := []string{
		"", "P", "PI", "PID", "PID-", "-1", "-", "[2]", "PID1", "PID 1", "PID--1", "PID-1-1", "PID.1", "PID(2)", "PID[2]", "PID[2]3", "PI-1", "PIDS-1", "pid-1", "Pid-1", "1ID-1", "P\xffD-1", "éA-1",
		// A part that is 1 does not stand there.
		"PID[1]-1", "PID-1(1)", "PID-1.1", "PID-1.1.1", "PID-1.2.1", "PID[1]-1(1).1.1", "PID[2]-1(1).2.2", "PID[1]-2(2).2.2", "PID[2]-2(2).2.1", "PID[2]-2(2).1", "PID[2]-2(2).1.1",
		// Needless noughts.
		"PID-01", "PID-001", "PID-010", "PID[02]-1", "PID-1(02)", "PID-1.02", "PID-1.1.02", "PID-1.01.2", "PID-00", "PID[002]-1", "PID-1(010)", "MSH-03", "MSH-009.3", "PID[01]-1",
		// A number beyond its edge.
		"PID-0", "PID-31", "PID-33", "PID-100", "MSH-0", "MSH-1", "MSH-2", "MSH-33", "PID[0]-1", "PID[21]-1", "PID-1(0)", "PID-1(21)", "PID-1.0", "PID-1.21", "PID-1.0.2", "PID-1.1.0", "PID-1.1.21", "PID-1.21.2", "PID-1.2.0",
		// A number that lacks, or a part that lacks its beginning or end.
		"PID[]-1", "PID[-1", "PID[2-1", "PID2]-1", "PID[2]]-1", "PID[[2]-1", "PID-1()", "PID-1(2", "PID-1(", "PID-12)", "PID-1(2))", "PID-1((2)", "PID-1.", "PID-1..2", "PID-1.2.", "PID-1.1.", "PID-1(2).", "PID-1.2.2.", "PID-1.2.2.2", "PID-1.1.2.1", "PID-(2)", "PID-.2", "PID[2]-", "PID[2]-(2)", "PID-1]", "PID-1[2]", "PID-1)",
		// Another order.
		"PID-1.2(2)", "PID(2)-1", "PID-1(2)[2]", "[2]PID-1", "PID.2-1", "PID-1(2)(2)", "PID[2][2]-1", "PID(2)-1[2]", "PID[2)-1", "PID-1(2]", "PID{2}-1",
		// Signs, blanks and other bytes.
		"PID-+1", "PID--1", "PID[+2]-1", "PID[-2]-1", "PID-1(+2)", "PID-1(-2)", "PID-1.+2", "PID-1.-2", "PID-1.1.+2", "PID-1.1.-2", "+PID-1", " PID-1", "PID-1 ", "PID- 1", "PID -1", "PID[ 2]-1", "PID[2 ]-1", "PID-1 (2)", "PID-1( 2)", "PID-1. 2", "PID-1.2 ", "PID-1\n", "PID-1\r", "PID-1\x00", "\x00PID-1", "PID-1_0", "PID-1e1", "PID-0x1", "PID-1a", "PID-a", "PID-1.a", "PID-1,2", "PID-1;2", "PID−1", "PID-١", "PID-1.²", "PID-\xff", "PID-1\xff", "PID:1", "PID-1/", "PID-1:",
	}
	for _, digits := range []string{"2147483648", "4294967297", "9223372036854775807", "9223372036854775808", "18446744073709551616", "18446744073709551617", "18446744073709551618", "-9223372036854775808", "-9223372036854775809", strings.Repeat("9", 100), strings.Repeat("0", 100) + "2", "1" + strings.Repeat("0", 30) + "2"} {
		list = append(list, "PID-"+digits, "PID["+digits+"]-1", "PID-1("+digits+")", "PID-1."+digits, "PID-1.1."+digits, "PID-1."+digits+".2")
	}
	for _, long := range []string{"1", "9", "0", "P", "[", ".1", "-1", "(2)", "\xff"} {
		list = append(list, strings.Repeat(long, impl.MaxBytes/len(long)), ("PID-" + strings.Repeat(long, impl.MaxBytes/len(long)))[:impl.MaxBytes])
	}
	return list
}

func TestPathReadBroken(t *testing.T) {
	for _, text := range brokenPaths() {
		same(t, named("PathRead", text), impl.PathRead(text), pathFault(impl.ErrSyntax))
	}
	for _, text := range []string{huge(), strings.Repeat("1", impl.MaxBytes+1), "PID-" + strings.Repeat("0", impl.MaxBytes) + "1", "PID-1" + strings.Repeat(" ", impl.MaxBytes), "PID[2]-3(4).5.6" + huge()} {
		same(t, named("PathRead", text), impl.PathRead(text), pathFault(impl.ErrSize))
	}
}

// pathPattern is a right Path's text by chapter 6's words, but for the limits of its Field.
var pathPattern = regexp.MustCompile(`^([A-Z][A-Z0-9]{2})(?:\[([2-9]|1[0-9]|20)\])?-([1-9]|[12][0-9]|3[0-2])(?:\(([2-9]|1[0-9]|20)\))?(?:\.([2-9]|1[0-9]|20)|\.([1-9]|1[0-9]|20)\.([2-9]|1[0-9]|20))?$`)

// pathByPattern: the right Path of a text, worked out by the pattern.
func pathByPattern(text string) impl.PathOut {
	found := pathPattern.FindStringSubmatch(text)
	if found == nil {
		return pathFault(impl.ErrSyntax)
	}
	number := func(digits string) int64 {
		if digits == "" {
			return 1
		}
		n, _ := strconv.ParseInt(digits, 10, 64)
		return n
	}
	p := place(found[1], number(found[2]), number(found[3]), number(found[4]), number(found[5]+found[6]), number(found[7]))
	if p.Seg == "MSH" && p.Field < 3 || p.Seg != "MSH" && p.Field > 30 {
		return pathFault(impl.ErrSyntax)
	}
	return pathTold(p)
}

func TestPathReadEachTextOfFewBytes(t *testing.T) {
	read := 0
	for _, seg := range []string{"PID", "MSH"} {
		eachText("0123[]-().", 5, func(text string) {
			want := pathByPattern(seg + text)
			same(t, named("PathRead", seg+text), impl.PathRead(seg+text), want)
			if want.Code == impl.OK {
				read++
			}
		})
		eachText("012().", 6, func(text string) {
			text = seg + "[2]-4" + text
			same(t, named("PathRead", text), impl.PathRead(text), pathByPattern(text))
		})
	}
	if read < 100 {
		t.Errorf("only %d texts are read", read)
	}
}

// Of a right Path's text with a byte put in, taken out or turned, no more is read than the pattern says.
func TestPathReadOneByteOff(t *testing.T) {
	bytes := "0129[]-(). +P\xff"
	for text := range rightPaths() {
		for at := range len(text) {
			list := []string{text[:at] + text[at+1:], text[:at]}
			for _, b := range []byte(bytes) {
				list = append(list, text[:at]+string([]byte{b})+text[at:], text[:at]+string([]byte{b})+text[at+1:], text+string([]byte{b}))
			}
			for _, off := range list {
				same(t, named("PathRead", off), impl.PathRead(off), pathByPattern(off))
			}
		}
	}
}

// visits: Segments of three Names, of which one is there three times, apart from each other.
func visits() impl.Message {
	obx := func(text string) impl.Segment { return segmentOf("OBX", oneSub(text)) }
	return headed(segmentOf("PID", oneSub("1")), obx("a"), segmentOf("NTE"), obx("b"), obx("c"))
}

func TestSegmentAt(t *testing.T) {
	m := visits()
	for _, c := range []struct {
		seg  string
		nth  int64
		want int64
	}{
		{"MSH", 1, 0}, {"PID", 1, 1}, {"OBX", 1, 2}, {"NTE", 1, 3}, {"OBX", 2, 4}, {"OBX", 3, 5},
		{"MSH", 2, -1}, {"PID", 2, -1}, {"OBX", 4, -1}, {"NTE", 2, -1}, {"PV1", 1, -1}, {"ZZZ", 1, -1}, {"PV1", 0, -1},
		{"", 1, -1}, {"OB", 1, -1}, {"OBXX", 1, -1}, {"obx", 1, -1}, {"OBX ", 1, -1}, {"1BX", 1, -1}, {strings.Repeat("O", impl.MaxBytes), 1, -1},
	} {
		same(t, named("SegmentAt", c.seg, c.nth), impl.SegmentAt(m, c.seg, c.nth), c.want)
	}
	for _, n := range append(wrongNumbers(), 5, 6, 19, 20) {
		for _, seg := range []string{"MSH", "PID", "OBX", "PV1"} {
			same(t, named("SegmentAt", seg, n), impl.SegmentAt(m, seg, n), -1)
		}
	}
	full := headed(manySegments(segmentOf("PID"), 19)...)
	same(t, "SegmentAt of the last of 19", impl.SegmentAt(full, "PID", 19), 19)
	same(t, "SegmentAt of a 20th of 19", impl.SegmentAt(full, "PID", 20), -1)
	same(t, "SegmentAt of a right one without a text", impl.SegmentAt(filledMessage(2*impl.MaxBytes), "ZZZ", 2), 2)
}

func TestSegmentAtRefused(t *testing.T) {
	for name, m := range wrongMessages() {
		for _, seg := range []string{"MSH", "PID", "PV1", "", huge()} {
			for _, nth := range []int64{0, 1, 2, 9} {
				same(t, named("SegmentAt: "+name, seg, nth), impl.SegmentAt(m, seg, nth), 0)
			}
		}
	}
	for _, nth := range []int64{-1, 0, 1, 2, 21} {
		same(t, named("SegmentAt of a seg of too much", nth), impl.SegmentAt(visits(), huge(), nth), 0)
	}
}

// parted has, at PID-3, two Comps of two Subs and an empty Comp between them, then an empty Rep, then one Sub.
func parted() impl.Field {
	return fieldOf(repOf(compOf("a", "b"), impl.Comp{}, compOf("", "c")), impl.Rep{}, repOf(compOf("d")))
}

func manyParts() impl.Message {
	m := headed(segmentOf("PID", oneSub("1"), impl.Field{}, parted()), segmentOf("ZZZ"), segmentOf("PID", oneSub("2")))
	m.Segments[0].Fields = []impl.Field{oneSub("three"), {}, oneSub("five")}
	return m
}

func TestFieldAt(t *testing.T) {
	m := manyParts()
	for text, want := range map[string]impl.Field{
		"MSH-3": oneSub("three"), "MSH-4": {}, "MSH-5": oneSub("five"), "MSH-6": {}, "MSH-32": {}, "MSH[2]-3": {},
		"PID-1": oneSub("1"), "PID-2": {}, "PID-3": parted(), "PID-4": {}, "PID-30": {},
		// The parts within a Field don't count, as far as they are right.
		"PID-3(2)": parted(), "PID-3(20).20.20": parted(), "PID-1(3).3.3": oneSub("1"), "MSH-5(6).11.6": oneSub("five"),
		"PID[2]-1": oneSub("2"), "PID[2]-2": {}, "PID[3]-1": {}, "ZZZ-1": {}, "ZZZ[2]-1": {}, "PV1-1": {},
	} {
		p := impl.PathRead(text)
		same(t, "PathRead of "+text, p.Code, impl.OK)
		check(t, "FieldAt "+text, impl.FieldAt(m, p.Path), want)
	}
	full := pid(manyFields(oneSub("x"), 29)...)
	full.Segments[1].Fields = append(full.Segments[1].Fields, oneSub("last"))
	full.Segments[0].Fields = full.Segments[1].Fields
	check(t, "FieldAt of the 30th", impl.FieldAt(full, first("PID", 30)), oneSub("last"))
	check(t, "FieldAt of MSH-32", impl.FieldAt(full, first("MSH", 32)), oneSub("last"))
	check(t, "FieldAt of MSH-31", impl.FieldAt(full, first("MSH", 31)), oneSub("x"))
}

func TestValueAt(t *testing.T) {
	m := manyParts()
	for text, want := range map[string]string{
		"MSH-3": "three", "MSH-4": "", "MSH-5": "five", "MSH-6": "", "MSH-3.2": "", "MSH-3(2)": "", "MSH-3.1.2": "", "MSH[2]-3": "", "MSH-32": "",
		"PID-1": "1", "PID-2": "", "PID-4": "", "PID-30": "", "PID[2]-1": "2", "PID[2]-3": "", "PID[3]-1": "", "ZZZ-1": "", "PV1-1": "",
		"PID-3": "a", "PID-3.1.2": "b", "PID-3.1.3": "", "PID-3.2": "", "PID-3.2.2": "", "PID-3.3": "", "PID-3.3.2": "c", "PID-3.3.3": "", "PID-3.4": "", "PID-3.20.20": "",
		"PID-3(2)": "", "PID-3(2).2": "", "PID-3(2).1.2": "", "PID-3(3)": "d", "PID-3(3).1.2": "", "PID-3(3).2": "", "PID-3(4)": "", "PID-3(20).20.20": "", "PID-3(10)": "",
	} {
		p := impl.PathRead(text)
		same(t, "PathRead of "+text, p.Code, impl.OK)
		same(t, "ValueAt "+text, impl.ValueAt(m, p.Path), want)
	}
	deep := fieldOf(append(manyReps(impl.Rep{}, 4).Reps, repOf(append(manyComps(impl.Comp{}, 9).Comps, compOf("", "", "", "", "deep"))...))...)
	same(t, "ValueAt of the last of each", impl.ValueAt(pid(deep), place("PID", 1, 1, 5, 10, 5)), "deep")
	marked := impl.MessageRead(head + `|A` + "\r" + `PID|x\F\y\E\` + "\r").Message
	same(t, "ValueAt of what was escaped", impl.ValueAt(marked, first("PID", 1)), `x|y\`)
}

func TestLooksRefused(t *testing.T) {
	for name, m := range wrongMessages() {
		for _, p := range []impl.Path{first("MSH", 3), first("PID", 1), first("PID", 2), first("MSH", 1)} {
			check(t, named("FieldAt: "+name, p), impl.FieldAt(m, p), impl.Field{})
			same(t, named("ValueAt: "+name, p), impl.ValueAt(m, p), "")
		}
	}
	full := pid(manyFields(oneSub("x"), 30)...)
	full.Segments[0].Fields = full.Segments[1].Fields
	for _, p := range wrongPaths() {
		for _, m := range []impl.Message{manyParts(), full} {
			check(t, named("FieldAt", p), impl.FieldAt(m, p), impl.Field{})
			same(t, named("ValueAt", p), impl.ValueAt(m, p), "")
		}
	}
}
