package tests

import (
	"strings"
	"testing"

	"loop.example/g00416/impl"
)

// body is a message's text behind its first Segment, if that is as headed lays it; else the whole.
func body(m impl.Message) string {
	text := impl.MessageText(m)
	if behind, ok := strings.CutPrefix(text, head+"|A\r"); ok {
		return behind
	}
	return text
}

// checkPut: what a put tells is OK, right, and has this body.
func checkPut(t *testing.T, what string, got impl.MessageOut, want string) {
	t.Helper()
	if got.Code != impl.OK || !impl.MessageRight(got.Message) || body(got.Message) != want {
		t.Errorf("%s: got code %d, %q, want %q", what, got.Code, body(got.Message), want)
	}
}

// checkPutFault: beside a code there is nothing of a message.
func checkPutFault(t *testing.T, what string, got impl.MessageOut, code int64) {
	t.Helper()
	if got.Code != code || got.Message.Marks != "" || len(got.Message.Segments) > 0 {
		t.Errorf("%s: got code %d, %.300q, want code %d", what, got.Code, got.Message, code)
	}
}

func readBody(t *testing.T, text string) impl.Message {
	t.Helper()
	out := impl.MessageRead(head + "|A\r" + text)
	if out.Code != impl.OK {
		t.Fatalf("not read: %q", text)
	}
	return out.Message
}

func readField(t *testing.T, text string) impl.Field {
	t.Helper()
	out := impl.FieldRead(usual, text)
	if out.Code != impl.OK {
		t.Fatalf("not read: %q", text)
	}
	return out.Field
}

func readPath(t *testing.T, text string) impl.Path {
	t.Helper()
	out := impl.PathRead(text)
	if out.Code != impl.OK {
		t.Fatalf("not read: %q", text)
	}
	return out.Path
}

// putCase: what is put to which place of which body, and the body then.
type putCase struct {
	ahead, path, put, then string
}

func TestFieldPut(t *testing.T) {
	for _, c := range []putCase{
		{"PID|1\r", "PID-1", "x", "PID|x\r"},
		{"PID|1\r", "PID-2", "x", "PID|1|x\r"},
		{"PID|1\r", "PID-4", "x", "PID|1|||x\r"},
		{"PID|1|2|3\r", "PID-2", "x", "PID|1|x|3\r"},
		{"PID|1||3\r", "PID-2", "x", "PID|1|x|3\r"},
		{"PID|1\r", "PID-30", "x", "PID|1" + strings.Repeat("|", 29) + "x\r"},
		{"PID\r", "PID-1", "x", "PID|x\r"},
		{"PID\r", "PID-30", "x", "PID" + strings.Repeat("|", 30) + "x\r"},
		{"PID" + strings.Repeat("|a", 30) + "\r", "PID-30", "x", "PID" + strings.Repeat("|a", 29) + "|x\r"},
		// The whole Field is another one, whichever part of it the place names.
		{"PID|1^2~3|a&b\r", "PID-1", "x~y^z", "PID|x~y^z|a&b\r"},
		{"PID|1^2~3|a&b\r", "PID-2(2).3.4", "x^y&z", "PID|1^2~3|x^y&z\r"},
		{"PID|1\r", "PID-1(20).20.20", "x", "PID|x\r"},
		{"PID|1\r", "PID-1", "~^&x", "PID|~^&x\r"},
		// No empty one stays at the end, nor one that was ahead of it.
		{"PID|1|2|3\r", "PID-3", "", "PID|1|2\r"},
		{"PID|1||3\r", "PID-3", "", "PID|1\r"},
		{"PID|||3\r", "PID-3", "", "PID\r"},
		{"PID|1\r", "PID-1", "", "PID\r"},
		{"PID|1|2|3\r", "PID-2", "", "PID|1||3\r"},
		{"PID|1|2|3\r", "PID-1", "", "PID||2|3\r"},
		{"PID|1||3\r", "PID-2", "", "PID|1||3\r"},
		{"PID|1\r", "PID-9", "", "PID|1\r"},
		{"PID\r", "PID-1", "", "PID\r"},
		{"PID\r", "PID-30", "", "PID\r"},
		// Each of the Segments of a Name, and others about it.
		{"PID|1\rOBX|a\rNTE\rOBX|b\rOBX|c\r", "OBX-1", "x", "PID|1\rOBX|x\rNTE\rOBX|b\rOBX|c\r"},
		{"PID|1\rOBX|a\rNTE\rOBX|b\rOBX|c\r", "OBX[2]-1", "x", "PID|1\rOBX|a\rNTE\rOBX|x\rOBX|c\r"},
		{"PID|1\rOBX|a\rNTE\rOBX|b\rOBX|c\r", "OBX[3]-2", "x", "PID|1\rOBX|a\rNTE\rOBX|b\rOBX|c|x\r"},
		{"PID|1\rOBX|a\rNTE\rOBX|b\rOBX|c\r", "NTE-1", "x", "PID|1\rOBX|a\rNTE|x\rOBX|b\rOBX|c\r"},
		{strings.Repeat("PID|1\r", 19), "PID[19]-1", "x", strings.Repeat("PID|1\r", 18) + "PID|x\r"},
		// MSH has its own numbers.
		{"", "MSH-3", "x", head + "|x\r"},
		{"", "MSH-4", "x", head + "|A|x\r"},
		{"PID|1\r", "MSH-5", "x", head + "|A||x\rPID|1\r"},
		{"", "MSH-32", "x", head + "|A" + strings.Repeat("|", 29) + "x\r"},
		{"", "MSH-32", "", ""},
		{"", "MSH-4", "", ""},
	} {
		got := impl.FieldPut(readBody(t, c.ahead), readPath(t, c.path), readField(t, c.put))
		checkPut(t, named("FieldPut", c), got, c.then)
		if got.Code == impl.OK {
			check(t, named("FieldAt what FieldPut tells", c), impl.FieldAt(got.Message, readPath(t, c.path)), readField(t, c.put))
		}
	}
}

func TestFieldPutOtherMarks(t *testing.T) {
	odd := impl.MessageRead("MSH!\"#$%!a\rPID!b\r").Message
	f := fieldOf(repOf(compOf("x!", "|")), repOf(compOf("y")))
	got := impl.FieldPut(odd, first("PID", 3), f)
	same(t, "FieldPut by other marks", impl.MessageText(got.Message), "MSH!\"#$%!a\rPID!b!!x$F$%|#y\r")
	got = impl.ValuePut(odd, place("PID", 1, 1, 2, 1, 2), "$!|")
	same(t, "ValuePut by other marks", impl.MessageText(got.Message), "MSH!\"#$%!a\rPID!b#%$E$$F$|\r")
}

func TestFieldPutHeadKeepsOne(t *testing.T) {
	alone := headed(segmentOf("PID", oneSub("1")))
	checkPutFault(t, "FieldPut of MSH's last", impl.FieldPut(alone, first("MSH", 3), impl.Field{}), impl.ErrRange)
	checkPutFault(t, "FieldPut of MSH's last, an empty list", impl.FieldPut(alone, first("MSH", 3), fieldOf([]impl.Rep{}...)), impl.ErrRange)
	checkPutFault(t, "ValuePut of MSH's last", impl.ValuePut(alone, first("MSH", 3), ""), impl.ErrRange)
	behind := impl.MessageRead(head + "|||x\r").Message
	checkPutFault(t, "FieldPut of MSH's last, behind empty ones", impl.FieldPut(behind, first("MSH", 5), impl.Field{}), impl.ErrRange)
	checkPutFault(t, "ValuePut of MSH's last, behind empty ones", impl.ValuePut(behind, first("MSH", 5), ""), impl.ErrRange)
	checkPut(t, "FieldPut of an empty one of two", impl.FieldPut(impl.MessageRead(head+"|A|B\r").Message, first("MSH", 3), impl.Field{}), head+"||B\r")
	checkPut(t, "ValuePut of an empty one of two", impl.ValuePut(impl.MessageRead(head+"|A|B\r").Message, first("MSH", 3), ""), head+"||B\r")
}

// wrongPlaces: right messages and places of which there is no Segment.
func wrongPlaces(t *testing.T) []impl.Path {
	list := []impl.Path{}
	for _, text := range []string{"PV1-1", "PID[2]-1", "OBX[4]-1", "OBX[20]-30(20).20.20", "MSH[2]-3", "ZZZ-1(6)", "PV1-1.11", "PV1-1.1.6", "PV1[2]-1"} {
		list = append(list, readPath(t, text))
	}
	return list
}

func TestPutNone(t *testing.T) {
	for _, p := range wrongPlaces(t) {
		for _, text := range []string{"", "x"} {
			checkPutFault(t, named("FieldPut", p, text), impl.FieldPut(visits(), p, readField(t, text)), impl.ErrNone)
			checkPutFault(t, named("ValuePut", p, text), impl.ValuePut(visits(), p, text), impl.ErrNone)
		}
	}
}

// wrongValues are no subs.
func wrongValues() []string {
	list := []string{strings.Repeat("x", 61), strings.Repeat("|", 61), strings.Repeat(" ", 400), strings.Repeat("x", impl.MaxBytes), "é", "a\rb", "\n", "\x00"}
	for b := range 256 {
		if b < 32 || b > 126 {
			list = append(list, string([]byte{byte(b)}), "a"+string([]byte{byte(b)})+"b")
		}
	}
	return list
}

func TestPutForm(t *testing.T) {
	for name, m := range wrongMessages() {
		for _, p := range []impl.Path{first("PID", 1), first("MSH", 3), first("PV1", 1), place("PID", 1, 1, 6, 1, 1), {}} {
			checkPutFault(t, named("FieldPut: "+name, p), impl.FieldPut(m, p, oneSub("x")), impl.ErrForm)
			checkPutFault(t, named("ValuePut: "+name, p), impl.ValuePut(m, p, "x"), impl.ErrForm)
		}
	}
	for _, p := range wrongPaths() {
		checkPutFault(t, named("FieldPut", p), impl.FieldPut(visits(), p, oneSub("x")), impl.ErrForm)
		checkPutFault(t, named("FieldPut, nothing", p), impl.FieldPut(visits(), p, impl.Field{}), impl.ErrForm)
		checkPutFault(t, named("ValuePut", p), impl.ValuePut(visits(), p, "x"), impl.ErrForm)
		checkPutFault(t, named("ValuePut, nothing", p), impl.ValuePut(visits(), p, ""), impl.ErrForm)
	}
	places := append(wrongPlaces(t), first("PID", 1), first("MSH", 3), place("PID", 1, 1, 6, 1, 1))
	for _, p := range places {
		for name, f := range wrongFields() {
			checkPutFault(t, named("FieldPut of "+name, p), impl.FieldPut(visits(), p, f), impl.ErrForm)
		}
		for _, value := range wrongValues() {
			checkPutFault(t, named("ValuePut", p, value), impl.ValuePut(visits(), p, value), impl.ErrForm)
		}
	}
}

// A 31st Field has no right place.
func TestPutNoMoreFields(t *testing.T) {
	full := pid(manyFields(oneSub("a"), 30)...)
	full.Segments[0].Fields = full.Segments[1].Fields
	for _, p := range []impl.Path{first("PID", 31), first("MSH", 33), first("PID", 0), first("MSH", 2)} {
		checkPutFault(t, named("FieldPut", p), impl.FieldPut(full, p, oneSub("x")), impl.ErrForm)
		checkPutFault(t, named("ValuePut", p), impl.ValuePut(full, p, "x"), impl.ErrForm)
	}
	for _, p := range []impl.Path{first("PID", 30), first("MSH", 32), first("PID", 1), first("MSH", 3)} {
		same(t, named("FieldPut", p), impl.FieldPut(full, p, oneSub("x")).Code, impl.OK)
		same(t, named("ValuePut", p), impl.ValuePut(full, p, "x").Code, impl.OK)
	}
}

func TestValuePutSize(t *testing.T) {
	for _, m := range []impl.Message{visits(), {}} {
		for _, p := range []impl.Path{first("PID", 1), first("PV1", 1), {}, place("PID", 1, 1, 6, 1, 1)} {
			for _, value := range []string{huge(), strings.Repeat("\x00", impl.MaxBytes+1)} {
				checkPutFault(t, named("ValuePut of too much", m, p), impl.ValuePut(m, p, value), impl.ErrSize)
			}
		}
	}
	x60 := strings.Repeat("x", 60)
	checkPut(t, "ValuePut of 60 bytes", impl.ValuePut(visits(), first("NTE", 1), x60), "PID|1\rOBX|a\rNTE|"+x60+"\rOBX|b\rOBX|c\r")
	// A message that has no text, since it would have too many bytes, is right.
	long := filledMessage(impl.MaxBytes)
	got := impl.ValuePut(long, first("MSH", 3), "AB")
	same(t, "ValuePut to more than MaxBytes", got.Code, impl.OK)
	same(t, "ValueAt in more than MaxBytes", impl.ValueAt(got.Message, first("MSH", 3)), "AB")
	same(t, "FieldPut to more than MaxBytes", impl.FieldPut(long, first("MSH", 3), oneSub("AB")).Code, impl.OK)
}

func TestValuePut(t *testing.T) {
	for _, c := range []putCase{
		{"PID|1\r", "PID-1", "x", "PID|x\r"},
		{"PID|1\r", "PID-3", "x", "PID|1||x\r"},
		{"PID\r", "PID-1", "x", "PID|x\r"},
		{"PID|1\r", "PID-3(2).2", "v", "PID|1||~^v\r"},
		{"PID|1\r", "PID-30", "x", "PID|1" + strings.Repeat("|", 29) + "x\r"},
		{"PID|1\r", "PID-1", " ", "PID| \r"},
		{"PID|1\r", "PID-1", usual + "}", `PID|\F\\S\\R\\E\\T\}` + "\r"},
		// One part among those that are there.
		{"PID|a&b^c~d|e\r", "PID-1", "x", "PID|x&b^c~d|e\r"},
		{"PID|a&b^c~d|e\r", "PID-1.1.2", "x", "PID|a&x^c~d|e\r"},
		{"PID|a&b^c~d|e\r", "PID-1.2", "x", "PID|a&b^x~d|e\r"},
		{"PID|a&b^c~d|e\r", "PID-1(2)", "x", "PID|a&b^c~x|e\r"},
		{"PID|a&b^c~d|e\r", "PID-2", "x", "PID|a&b^c~d|x\r"},
		// Behind the last one, with empty ones ahead.
		{"PID|a&b^c~d|e\r", "PID-1.1.3", "x", "PID|a&b&x^c~d|e\r"},
		{"PID|a&b^c~d|e\r", "PID-1.1.5", "x", "PID|a&b&&&x^c~d|e\r"},
		{"PID|a&b^c~d|e\r", "PID-1.3", "x", "PID|a&b^c^x~d|e\r"},
		{"PID|a&b^c~d|e\r", "PID-1.10.5", "x", "PID|a&b^c^^^^^^^^&&&&x~d|e\r"},
		{"PID|a&b^c~d|e\r", "PID-1(3)", "x", "PID|a&b^c~d~x|e\r"},
		{"PID|a&b^c~d|e\r", "PID-1(5).10.5", "x", "PID|a&b^c~d~~~^^^^^^^^^&&&&x|e\r"},
		{"PID|a&b^c~d|e\r", "PID-1(2).1.2", "x", "PID|a&b^c~d&x|e\r"},
		{"PID|~b\r", "PID-1", "x", "PID|x~b\r"},
		{"PID|^b\r", "PID-1", "x", "PID|x^b\r"},
		{"PID|&b\r", "PID-1", "x", "PID|x&b\r"},
		{"PID|~b\r", "PID-1.2.2", "x", "PID|^&x~b\r"},
		// An empty value, at an end: none that is empty stays there.
		{"PID|a&b\r", "PID-1.1.2", "", "PID|a\r"},
		{"PID|a&&b\r", "PID-1.1.3", "", "PID|a\r"},
		{"PID|&&b\r", "PID-1.1.3", "", "PID\r"},
		{"PID|x|&&b\r", "PID-2.1.3", "", "PID|x\r"},
		{"PID|x||^^&&b\r", "PID-3.3.3", "", "PID|x\r"},
		{"PID|x||~~^^&&b\r", "PID-3(3).3.3", "", "PID|x\r"},
		{"PID|x||~~^^&&b|y\r", "PID-3(3).3.3", "", "PID|x|||y\r"},
		{"PID|a^b\r", "PID-1.2", "", "PID|a\r"},
		{"PID|a^^b\r", "PID-1.3", "", "PID|a\r"},
		{"PID|a~b\r", "PID-1(2)", "", "PID|a\r"},
		{"PID|a~~b\r", "PID-1(3)", "", "PID|a\r"},
		{"PID|a~^b~c\r", "PID-1(2).2", "", "PID|a~~c\r"},
		{"PID|a~^b&c~c\r", "PID-1(2).2.2", "", "PID|a~^b~c\r"},
		{"PID|a\r", "PID-1", "", "PID\r"},
		{"PID|a||b\r", "PID-3", "", "PID|a\r"},
		// An empty value inside, or where there is none.
		{"PID|a&b^c~d|e\r", "PID-1", "", "PID|&b^c~d|e\r"},
		{"PID|a^c~d|e\r", "PID-1", "", "PID|^c~d|e\r"},
		{"PID|a~d|e\r", "PID-1", "", "PID|~d|e\r"},
		{"PID|a|e\r", "PID-1", "", "PID||e\r"},
		{"PID|a\r", "PID-1.1.5", "", "PID|a\r"},
		{"PID|a\r", "PID-1.10", "", "PID|a\r"},
		{"PID|a\r", "PID-1(5)", "", "PID|a\r"},
		{"PID|a\r", "PID-30(5).10.5", "", "PID|a\r"},
		{"PID|a\r", "PID-1.1.6", "", "PID|a\r"},
		{"PID|a\r", "PID-1.11", "", "PID|a\r"},
		{"PID|a\r", "PID-1(6)", "", "PID|a\r"},
		{"PID\r", "PID-30(20).20.20", "", "PID\r"},
		// Which Segment, and MSH.
		{"PID|1\rOBX|a\rOBX|b\r", "OBX[2]-1.2", "x", "PID|1\rOBX|a\rOBX|b^x\r"},
		{"PID|1\rOBX|a\rOBX|b\r", "OBX-1.2", "x", "PID|1\rOBX|a^x\rOBX|b\r"},
		{"PID|1\r", "MSH-3", "x", head + "|x\rPID|1\r"},
		{"PID|1\r", "MSH-9.3", "x", head + "|A||||||^^x\rPID|1\r"},
		{"PID|1\r", "MSH-32", "x", head + "|A" + strings.Repeat("|", 29) + "x\rPID|1\r"},
		{"PID|1\r", "MSH-32(6)", "", "PID|1\r"},
	} {
		got := impl.ValuePut(readBody(t, c.ahead), readPath(t, c.path), c.put)
		checkPut(t, named("ValuePut", c), got, c.then)
		same(t, named("ValueAt what ValuePut tells", c), impl.ValueAt(got.Message, readPath(t, c.path)), c.put)
	}
}

func TestValuePutTooMany(t *testing.T) {
	m := readBody(t, "PID|a~a~a~a~a|a^a^a^a^a^a^a^a^a^a|a&a&a&a&a\r")
	for _, text := range []string{
		"PID-1(6)", "PID-1(20)", "PID-2.11", "PID-2.20", "PID-3.1.6", "PID-3.1.20", "PID-1.1.6", "PID-1.11", "PID-4(6)", "PID-4.11", "PID-4.1.6",
		"PID-4(5).10.6", "PID-4(5).11.5", "PID-4(6).10.5", "PID-30(20).20.20", "MSH-3(6)", "MSH-3.11", "MSH-3.1.6", "MSH-32(20).20.20",
	} {
		checkPutFault(t, "ValuePut "+text, impl.ValuePut(m, readPath(t, text), "x"), impl.ErrRange)
	}
	for _, text := range []string{"PID-1(5)", "PID-2.10", "PID-3.1.5", "PID-1.1.5", "PID-1(5).10.5", "PID-2.10.5", "PID-2(5).10.5", "PID-3(5).10.5", "PID-30(5).10.5", "MSH-32(5).10.5"} {
		same(t, "ValuePut "+text, impl.ValuePut(m, readPath(t, text), "x").Code, impl.OK)
	}
}
