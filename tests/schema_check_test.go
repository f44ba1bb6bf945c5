package tests

import (
	"fmt"
	"slices"
	"strings"
	"testing"

	"loop.example/g00416/impl"
)

// fieldCase: a Field's text, and what CheckField tells of it by each version.
type fieldCase struct {
	seg   string
	field int64
	text  string
	codes [3]int64
}

func fieldCases() []fieldCase {
	const bad = impl.ErrSchema
	always, never := [3]int64{}, [3]int64{bad, bad, bad}
	fromSecond, fromThird := [3]int64{bad, 0, 0}, [3]int64{bad, bad, 0}
	return []fieldCase{
		// A Field without a Rule may be empty, and nothing else.
		{"PID", 2, "", always}, {"PID", 2, "x", never}, {"PID", 9, "", always}, {"PID", 9, "A", never}, {"MSH", 8, "", always}, {"MSH", 8, "x", never}, {"MSH", 11, "P", never}, {"OBX", 2, "x", never}, {"OBX", 4, "", always},
		// Below the first Field, and beyond the last one.
		{"MSH", 1, "", always}, {"MSH", 1, `\F\`, never}, {"MSH", 2, "", always}, {"MSH", 2, "x", never}, {"MSH", 0, "", always}, {"MSH", 0, "x", never}, {"PID", 0, "", always}, {"PID", 0, "x", never}, {"PID", -3, "x", never}, {"PID", -3, "", always},
		{"PID", 11, "", always}, {"PID", 11, "x", never}, {"PID", 30, "x", never}, {"PID", 31, "", always}, {"PID", 31, "x", never}, {"MSH", 32, "x", never}, {"MSH", 33, "x", never}, {"MSH", 33, "", always}, {"PID", 1 << 40, "x", never}, {"PID", 1<<32 + 1, "1", never}, {"PID", 1 << 40, "", always},
		// What Must be, and what need not.
		{"MSH", 3, "", never}, {"MSH", 4, "", always}, {"MSH", 7, "", never}, {"MSH", 9, "", never}, {"MSH", 10, "", never}, {"MSH", 12, "", never}, {"MSH", 18, "", always}, {"OBX", 3, "", never}, {"OBX", 14, "", always}, {"PID", 3, "", never}, {"PID", 5, "", never}, {"PID", 7, "", always}, {"PV1", 2, "", never}, {"PV1", 7, "", always},
		{"PRT", 2, "", [3]int64{0, 0, bad}}, {"SFT", 1, "", [3]int64{0, bad, bad}}, {"SFT", 2, "", [3]int64{0, bad, bad}}, {"PRT", 5, "", always},
		// What there is from a version on.
		{"MSH", 18, "ABC", fromSecond}, {"OBX", 18, "x", fromSecond}, {"PID", 10, "x", fromSecond}, {"SFT", 1, "x", fromSecond}, {"SFT", 2, "x", fromSecond}, {"PRT", 2, "x", never}, {"PRT", 2, "A", fromThird}, {"PRT", 5, "a&b", fromThird},
		// Many, and not.
		{"MSH", 3, "a", always}, {"MSH", 3, "a~b", never}, {"MSH", 18, "A~N~ABC", fromSecond}, {"MSH", 18, "A~a", never}, {"NTE", 1, "1~2", never}, {"NTE", 3, "a~b~c~d~e", always}, {"OBX", 5, "a~b", always}, {"OBX", 3, "a~b", never}, {"OBX", 14, "20240101~20240101", never},
		{"PID", 1, "1~1", never}, {"PID", 3, "a~b", always}, {"PID", 5, "a^b~c&d^e", always}, {"PID", 7, "20240101~20240102", never}, {"PID", 8, "M~F", never}, {"PV1", 2, "I~O", never}, {"PV1", 7, "a^b~c", always}, {"SFT", 1, "a~b", never}, {"PRT", 5, "a~b", fromThird}, {"PID", 10, "a~b", never},
		// An empty Rep never fits.
		{"PID", 3, "~a", never}, {"PID", 3, "a~~b", never}, {"NTE", 3, "~b", never}, {"PV1", 7, "~a", never}, {"PID", 5, "a~~b", never}, {"MSH", 18, "A~~B", never}, {"MSH", 3, "~a", never},
		// One of them does not fit.
		{"PID", 3, "a~b^c", never}, {"PID", 3, "a^b~c", never}, {"PID", 5, "a~b~c~d~^e", never}, {"PID", 5, "a^b&c", never}, {"OBX", 5, "a~b~c&d", never}, {"NTE", 3, "a&b", never},
		// Each type at its place.
		{"NTE", 1, "-1.5", always}, {"NTE", 1, "01", never}, {"OBX", 1, "a", never}, {"PID", 7, "20240229", always}, {"PID", 7, "2024022912", never}, {"OBX", 14, "2024022912", always}, {"OBX", 14, "20240229123000.1", fromSecond}, {"MSH", 7, "20240229+0100", fromThird}, {"MSH", 7, "2024", never},
		{"PID", 8, "A", fromSecond}, {"PID", 8, "N", fromSecond}, {"PID", 8, "F", always}, {"PID", 8, "f", never}, {"PV1", 2, "I", always}, {"PV1", 2, "ABCD", never}, {"PV1", 7, "a^b^c^d", fromSecond}, {"PV1", 7, "a&b", fromSecond},
		{"MSH", 9, "ADT^A01", [3]int64{0, bad, bad}}, {"MSH", 9, "ADT^A01^ADT_A01", fromSecond}, {"MSH", 9, "ADT^A01^ADT_A02", never}, {"OBX", 3, "a^b^c^d^e^f", always}, {"OBX", 3, "a^b^c^d^e^f^g", fromThird}, {"PID", 10, "a^^^^^^g", fromThird}, {"MSH", 12, "anything", always},
		// A Segment that there is not has no Rules, whatever else is known.
		{"OBR", 1, "", always}, {"OBR", 1, "x", never}, {"AZZ", 3, "x", never}, {"PV2", 2, "I", never}, {"MSG", 3, "x", never},
		// Of a Name that begins with Z nothing is asked.
		{"ZZZ", 3, "x", always}, {"Z01", 1, "", always}, {"ZAK", 1 << 40, "a~~b^c&d", always}, {"Z00", -5, "x", always}, {"ZMS", 0, "~~x", always},
	}
}

func TestCheckField(t *testing.T) {
	for _, c := range fieldCases() {
		f := readField(t, c.text)
		for i, want := range c.codes {
			same(t, fmt.Sprintf("CheckField(%d, %s, %d, %q)", i+1, c.seg, c.field, c.text), impl.CheckField(int64(i+1), c.seg, c.field, f), want)
		}
	}
}

func noNames() []string {
	return []string{"", "P", "PI", "PIDX", "pid", "Pid", "1ID", "zzz", "Z", "ZZ", "ZZZZ", "Zzz", "Z-1", "P D", "PI\x80", "éA", "PID-3", strings.Repeat("Z", impl.MaxBytes)}
}

func TestCheckFieldForm(t *testing.T) {
	for name, f := range wrongFields() {
		for _, seg := range []string{"PID", "MSH", "ZZZ", "OBR"} {
			for field := int64(-1); field <= 12; field++ {
				same(t, "CheckField of "+name, impl.CheckField(1+(field+1)%3, seg, field, f), impl.ErrForm)
			}
		}
	}
	for _, version := range noVersions() {
		for _, seg := range []string{"PID", "MSH", "ZZZ", "OBR"} {
			for _, f := range []impl.Field{{}, oneSub("x"), manyReps(repOf(compOf("a")), 5)} {
				same(t, "CheckField of no version", impl.CheckField(version, seg, 3, f), impl.ErrForm)
				same(t, "CheckField of no version, and no Rule", impl.CheckField(version, seg, 40, f), impl.ErrForm)
			}
		}
	}
	for _, seg := range noNames() {
		for _, f := range []impl.Field{{}, oneSub("x")} {
			for version := int64(1); version <= 3; version++ {
				same(t, named("CheckField of no Name", seg), impl.CheckField(version, seg, 3, f), impl.ErrForm)
			}
		}
	}
}

// A text that is too long is told ahead of all else.
func TestCheckFieldSize(t *testing.T) {
	for _, seg := range []string{huge(), strings.ToUpper(huge()), "PID" + huge(), "ZZZ" + huge(), strings.Repeat("Z", impl.MaxBytes+1)} {
		for _, version := range anyVersions() {
			for _, f := range []impl.Field{{}, oneSub("x"), oneSub(""), oneSub(huge())} {
				same(t, "CheckField of a seg too long", impl.CheckField(version, seg, 3, f), impl.ErrSize)
			}
		}
	}
}

// Each Field of each Segment by the table, of some texts that fit some of the types.
func TestCheckFieldEachPlace(t *testing.T) {
	texts := []string{"", "x", "A", "N", "ABC", "1", "20240229", "20240229123000.1", "20240229+0100", "ADT^A01", "ADT^A01^ADT_A01", "a&b", "a^b", "a^b^c^d^e^f^g", "a~b", "~a", "A~B", "1~2", "a^b&c"}
	for _, seg := range []string{"MSH", "NTE", "OBX", "PID", "PRT", "PV1", "SFT", "OBR", "ZZZ"} {
		for field := int64(-1); field <= 34; field++ {
			for _, text := range texts {
				f := readField(t, text)
				for version := int64(1); version <= 3; version++ {
					if got, want := impl.CheckField(version, seg, field, f), codeByTable(version, seg, field, f); got != want {
						t.Errorf("CheckField(%d, %s, %d, %q): got %d, want %d", version, seg, field, text, got, want)
					}
				}
			}
		}
	}
}

// codeByTable is what CheckField is asked for of a right Field, by the table and the patterns alone.
func codeByTable(version int64, seg string, field int64, f impl.Field) int64 {
	if seg[0] == 'Z' {
		return impl.OK
	}
	rule := tableRule(version, seg, field)
	if len(f.Reps) > 0 && rule.Seg == "" || len(f.Reps) == 0 && rule.Must || len(f.Reps) > 1 && !rule.Many {
		return impl.ErrSchema
	}
	for _, r := range f.Reps {
		if !fitsByPattern(version, rule.Type, impl.FieldText(usual, fieldOf(r))) {
			return impl.ErrSchema
		}
	}
	return impl.OK
}

// findingByTable is what CheckMessage is asked for of a right m, by the table and the patterns alone.
func findingByTable(m impl.Message) impl.Finding {
	spelt := impl.ValueAt(m, first("MSH", 12))
	version := int64(slices.Index([]string{"", "2.3", "2.5.1", "2.7"}, spelt))
	if version < 1 {
		return impl.Finding{Path: "MSH-12", Code: impl.ErrSchema}
	}
	count := map[string]int{}
	for _, s := range m.Segments {
		count[s.Name]++
		if s.Name[0] != 'Z' && !tableKnows(version, s.Name) {
			return impl.Finding{Path: fmt.Sprintf("%s[%d]", s.Name, count[s.Name]), Code: impl.ErrSchema}
		}
		for number := int64(1); number <= 32; number++ {
			at, f := int(number)-1, impl.Field{}
			if s.Name == "MSH" {
				at -= 2
			}
			if at >= 0 && at < len(s.Fields) {
				f = s.Fields[at]
			}
			if code := codeByTable(version, s.Name, number, f); code != impl.OK {
				nth := ""
				if count[s.Name] > 1 {
					nth = fmt.Sprintf("[%d]", count[s.Name])
				}
				return impl.Finding{Path: fmt.Sprintf("%s%s-%d", s.Name, nth, number), Code: code}
			}
		}
	}
	return impl.Finding{}
}

// Heads of messages that are in order, of each version.
const (
	head23  = `MSH|^~\&|A||||20240101||ADT^A01|1||2.3`
	head251 = `MSH|^~\&|A||||20240101||ADT^A01^ADT_A01|1||2.5.1`
	head27  = `MSH|^~\&|A||||20240101||ADT^A01^ADT_A01|1||2.7`
)

// messageCase: a message's lines, and the place of its first fault, if there is one.
type messageCase struct {
	lines, path string
}

func messageCases() []messageCase {
	return []messageCase{
		// In order.
		{head23, ""}, {head251, ""}, {head27, ""}, {head23 + "\rPID|1||id||Smith", ""}, {head251 + "\rSFT|a|b", ""}, {head27 + "\rPRT||A|||a&b^c", ""}, {head27 + "||||||A~N", ""},
		{head23 + "\rPID|||id||Smith\rPV1||I\rOBX|||x\rNTE", ""}, {head23 + "\rNTE\rNTE|1||a~b\rNTE", ""}, {`MSH|^~\&|A|B|C|D|20240101123000.1234-0130||ACK^A01^ACK_A01|1||2.7`, ""},
		// The version comes first, whatever else is wrong.
		{`MSH|^~\&|A`, "MSH-12"}, {`MSH|^~\&||x`, "MSH-12"}, {`MSH|^~\&|A||||20240101||ADT^A01|1`, "MSH-12"}, {`MSH|^~\&|A||||20240101||ADT^A01|1||2.4`, "MSH-12"}, {`MSH|^~\&|||||||||2.3`, "MSH-12"}, {`MSH|^~\&||||||||||2.3`, "MSH-3"}, {`MSH|^~\&|A||||||||| 2.3`, "MSH-12"},
		{`MSH|^~\&|A||||20240101||ADT^A01|1|||2.3`, "MSH-12"}, {`MSH|^~\&|A||||20240101||ADT^A01|1||~2.3`, "MSH-12"}, {`MSH|^~\&|A||||20240101||ADT^A01|1||^2.3`, "MSH-12"}, {`MSH|^~\&|A||||20240101||ADT^A01|1||&2.3`, "MSH-12"}, {`MSH|^~\&|A` + "\rOBR", "MSH-12"}, {`MSH|^~\&|A||||20240101||ADT^A01|1||x` + "\rPID", "MSH-12"},
		// Its text is a version's, but for more behind it: that Field is named in its turn.
		{head23 + "^x", "MSH-12"}, {head23 + "~2.3", "MSH-12"}, {head23 + "&x", "MSH-12"}, {`MSH|^~\&|||||20240101||ADT^A01|1||2.3^x`, "MSH-3"}, {head23 + "^x\rOBR", "MSH-12"},
		// Each that Must be.
		{`MSH|^~\&|||||20240101||ADT^A01|1||2.3`, "MSH-3"}, {`MSH|^~\&|A||||||ADT^A01|1||2.3`, "MSH-7"}, {`MSH|^~\&|A||||20240101|||1||2.3`, "MSH-9"}, {`MSH|^~\&|A||||20240101||ADT^A01|||2.3`, "MSH-10"},
		// Behind the last Field that is there.
		{head23 + "\rPID", "PID-3"}, {head23 + "\rPID|1", "PID-3"}, {head23 + "\rPID|1||id", "PID-5"}, {head23 + "\rPID|1||id|", "none"}, {head23 + "\rPV1", "PV1-2"}, {head23 + "\rOBX|1", "OBX-3"}, {head251 + "\rSFT", "SFT-1"}, {head251 + "\rSFT|a", "SFT-2"}, {head27 + "\rPRT", "PRT-2"},
		// Fields without a Rule, among others and behind them all.
		{head23 + "|x", "MSH-13"}, {head23 + "||||||A", "MSH-18"}, {head251 + "||||||A", ""}, {head251 + "||||||a", "MSH-18"}, {head251 + "|||||||A", "MSH-19"}, {head23 + "\rPID|1|x|id||Smith", "PID-2"}, {head23 + "\rPID|1||id||Smith|x", "PID-6"}, {head23 + "\rNTE||||x", "NTE-4"}, {head23 + "\rNTE|||" + strings.Repeat("|", 26) + "x", "NTE-29"},
		{head23 + "\rPID|||id||Smith|||||x", "PID-10"}, {head251 + "\rPID|||id||Smith|||||x", ""}, {head251 + "\rPID|||id||Smith||||||x", "PID-11"}, {`MSH|^~\&|A||||20240101|x|ADT^A01|1||2.3`, "MSH-8"}, {head23 + strings.Repeat("|", 20) + "x", "MSH-32"},
		// Segments that there are not, by which of their Name they are.
		{head23 + "\rOBR", "OBR[1]"}, {head23 + "\rOBR|x\rOBR", "OBR[1]"}, {head23 + "\rSFT|a|b", "SFT[1]"}, {head251 + "\rPRT||A", "PRT[1]"}, {head23 + "\rPRT||A", "PRT[1]"}, {head27 + "\rAZZ", "AZZ[1]"}, {head23 + "\rMSG|A", "MSG[1]"}, {head23 + "\rPV1||I\rSFT", "SFT[1]"}, {head23 + "\rZZZ\rOBR", "OBR[1]"},
		// Houses' own.
		{head23 + "\rZZZ", ""}, {head23 + "\rZZZ|~x^&y\rZ01|||x~~y", ""}, {head27 + "\rZPI|1\rZPI|" + strings.Repeat("|", 29) + "x", ""}, {head23 + "\rZZZ|x\rPID", "PID-3"},
		// Of a Name's second.
		{head23 + "\rPV1||I\rPV1||i", "PV1[2]-2"}, {head23 + "\rPV1||I\rZZZ\rPV1", "PV1[2]-2"}, {head23 + "\rNTE\rNTE\rNTE|x", "NTE[3]-1"}, {head23 + strings.Repeat("\rNTE", 18) + "\rNTE||x", "NTE[19]-2"}, {head23 + "\rPV1||I\rPID|||a||b\rPV1||I\rPID|||a||b|x", "PID[2]-6"},
		// The first of two.
		{head23 + "\rPV1||i\rPV1||i", "PV1-2"}, {head23 + "\rPID|x|x", "PID-1"}, {head23 + "\rPID||x\rOBR", "PID-2"}, {head23 + "\rOBR\rPID", "OBR[1]"}, {head23 + "|x\rOBR", "MSH-13"}, {head23 + "\rPID|||id||^x||2024|a", "PID-5"}, {head23 + "\rPID|||id||x||2024|a", "PID-7"}, {head23 + "\rPV1\rPID", "PV1-2"}, {head23 + "\rPID\rPV1", "PID-3"},
		// What a version does not take.
		{strings.Replace(head23, "ADT^A01", "ADT^A01^ADT_A01", 1), "MSH-9"}, {strings.Replace(head251, "ADT^A01^ADT_A01", "ADT^A01", 1), "MSH-9"}, {strings.Replace(head27, "_A01", "_A02", 1), "MSH-9"}, {strings.Replace(head23, "20240101", "20240101123000.1", 1), "MSH-7"}, {strings.Replace(head251, "20240101", "20240101123000.1", 1), ""}, {strings.Replace(head251, "20240101", "20240101+0100", 1), "MSH-7"}, {strings.Replace(head27, "20240101", "20240101+0100", 1), ""},
		{head23 + "\rPID|||id||Smith|||A", "PID-8"}, {head251 + "\rPID|||id||Smith|||A", ""}, {head23 + "\rPV1||N", "PV1-2"}, {head23 + "\rPV1||I|||||a^b^c^d", "PV1-7"}, {head251 + "\rPV1||I|||||a^b^c^d", ""}, {head251 + "\rOBX|||a^b^c^d^e^f^g", "OBX-3"}, {head27 + "\rOBX|||a^b^c^d^e^f^g", ""}, {head23 + "\rPID|||id~~other||Smith", "PID-3"}, {head23 + "\rPID|||id||Smith^J&K", "PID-5"},
	}
}

func TestCheckMessage(t *testing.T) {
	for _, c := range messageCases() {
		read := impl.MessageRead(c.lines + "\r")
		if c.path == "none" {
			same(t, named("no right message", c.lines), read.Code, impl.ErrSyntax)
			continue
		}
		if read.Code != impl.OK {
			t.Fatalf("not read: %q", c.lines)
		}
		want := impl.Finding{}
		if c.path != "" {
			want = impl.Finding{Path: c.path, Code: impl.ErrSchema}
		}
		same(t, named("CheckMessage", c.lines), impl.CheckMessage(read.Message), want)
		same(t, named("the table", c.lines), findingByTable(read.Message), want)
		// By other marks it is the same message.
		read.Message.Marks = "!\"#$%"
		same(t, named("CheckMessage by other marks", c.lines), impl.CheckMessage(read.Message), want)
	}
}

func TestCheckMessageForm(t *testing.T) {
	for name, m := range wrongMessages() {
		same(t, "CheckMessage of "+name, impl.CheckMessage(m), impl.Finding{Code: impl.ErrForm})
	}
	for name, f := range wrongFields() {
		m := impl.MessageRead(head23 + "\rZZZ|a\r").Message
		m.Segments[1].Fields[0] = f
		same(t, "CheckMessage with "+name, impl.CheckMessage(m), impl.Finding{Code: impl.ErrForm})
	}
	m := impl.MessageRead(head23 + "\rPID|1\r").Message
	m.Segments[1].Fields = append(m.Segments[1].Fields, impl.Field{})
	same(t, "CheckMessage with an empty Field at the end", impl.CheckMessage(m), impl.Finding{Code: impl.ErrForm})
}

// A message may be right though its text has more than MaxBytes bytes: it is checked like any other.
func TestCheckMessageLong(t *testing.T) {
	m := impl.MessageRead(head23 + "\r").Message
	full := manyReps(repOf(compOf(strings.Repeat("|", 60))), 5)
	for range 19 {
		m.Segments = append(m.Segments, segmentOf("NTE", impl.Field{}, impl.Field{}, full))
	}
	same(t, "its text", impl.MessageText(m), "")
	same(t, "CheckMessage of a long one", impl.CheckMessage(m), impl.Finding{})
	m.Segments[19].Fields = append(m.Segments[19].Fields, oneSub("x"))
	same(t, "CheckMessage of a long one with a fault", impl.CheckMessage(m), impl.Finding{Path: "NTE[19]-4", Code: impl.ErrSchema})
}
