package tests

import (
	"fmt"
	"strings"
	"testing"

	"loop.example/g00416/impl"
)

func checkZ(t *testing.T, what string, m impl.Message, want ...string) {
	t.Helper()
	if got := impl.ZSegments(m); len(got) != len(want) || strings.Join(got, "\r") != strings.Join(want, "\r") {
		t.Errorf("ZSegments of %s: got %q, want %q", what, got, want)
	}
}

func TestZSegments(t *testing.T) {
	for lines, want := range map[string][]string{
		head23:                                nil,
		head23 + "\rPID|||a||b":               nil,
		head23 + "\rZZZ":                      {"ZZZ"},
		head23 + "\rZ01|x":                    {"Z01|x"},
		head23 + "\rZZ1|x\rPID|||a\rZAK|1||y": {"ZZ1|x", "ZAK|1||y"},
		head27 + "\rZZZ|b\rZZZ|a\rZZZ|b\rZAA": {"ZZZ|b", "ZZZ|a", "ZZZ|b", "ZAA"},
		head27 + `` + "\r" + `ZZZ|\F\\S\~\R\^\E\&\T\x|a~~b^^c&&d`: {`ZZZ|\F\\S\~\R\^\E\&\T\x|a~~b^^c&&d`},
		// None that has a Z elsewhere in its Name.
		head23 + "\rAZZ|x\rPZ1|y\rZPA|z\rPIZ": {"ZPA|z"},
		// What CheckMessage finds a fault in has them too.
		`MSH|^~\&|x` + "\rZZZ|1":                            {"ZZZ|1"},
		head23 + "|x\rOBR\rZZZ|1\rSFT\rZ99||||||x":          {"ZZZ|1", "Z99||||||x"},
		`MSH|^~\&|||||||||||2.9` + "\rPID|x\rZZZ|1":         {"ZZZ|1"},
		head23 + strings.Repeat("\rZZZ|x", 19):              many("ZZZ|x", 19),
		head23 + "\rZZZ" + strings.Repeat("|", 30) + "last": {"ZZZ" + strings.Repeat("|", 30) + "last"},
	} {
		checkZ(t, named("lines", lines), readLines(t, lines), want...)
	}
}

func TestZSegmentsByMarks(t *testing.T) {
	m := readLines(t, head23+"\rZZZ|a_b^c&d~e|@")
	checkZ(t, "usual marks", m, "ZZZ|a_b^c&d~e|@")
	m.Marks = "@[]_`"
	checkZ(t, "other marks", m, "ZZZ@a_E_b[c`d]e@_F_")
}

func TestZSegmentsRefused(t *testing.T) {
	for name, m := range wrongMessages() {
		checkZ(t, name, m)
	}
	for name, f := range wrongFields() {
		m := readLines(t, head23+"\rZZZ|a\rZ01|b")
		m.Segments[1].Fields[0] = f
		checkZ(t, name, m)
	}
	m := readLines(t, head23+"\rZZZ|a")
	m.Segments[0].Fields = nil
	checkZ(t, "MSH without Fields", m)
}

// The text of a Segment, or of the message, may have more than MaxBytes bytes.
func TestZSegmentsLong(t *testing.T) {
	text := "ZZZ" + strings.Repeat("|"+strings.Repeat(`\F\`, 60), 30)
	m := readLines(t, head23+"\rZZZ|"+strings.Repeat(`\F\`, 60))
	for range 29 {
		m.Segments[1].Fields = append(m.Segments[1].Fields, m.Segments[1].Fields[0])
	}
	checkZ(t, "a long one", m, text)
	m.Segments = append(m.Segments, m.Segments[1], m.Segments[1])
	checkZ(t, "long ones", m, text, text, text)
	same(t, "the message's text", impl.MessageText(m), "")
	full := manyReps(manyComps(compOf(many(strings.Repeat("|", 60), 5)...), 10), 5)
	m.Segments = append(m.Segments[:1], segmentOf("ZZ9", full))
	checkZ(t, "one beyond MaxBytes", m, "ZZ9|"+impl.FieldText(usual, full))
}

// answerCase: a message's lines, and those of the answer of the code AA and the id 9.
type answerCase struct {
	lines, want string
}

func answerCases() []answerCase {
	return []answerCase{
		// Without MSH-5 it comes from who sent it; with it, from who was asked.
		{head23, `MSH|^~\&|A||A||20240101||ACK^A01|9||2.3` + "\rZAK|AA|1"},
		{head251, `MSH|^~\&|A||A||20240101||ACK^A01^ACK_A01|9||2.5.1` + "\rZAK|AA|1"},
		{head27, `MSH|^~\&|A||A||20240101||ACK^A01^ACK_A01|9||2.7` + "\rZAK|AA|1"},
		{`MSH|^~\&|FROM||TO||2024010112||ORU^R01|m77||2.3`, `MSH|^~\&|TO||FROM||2024010112||ACK^R01|9||2.3` + "\rZAK|AA|m77"},
		{`MSH|^~\&|FROM||TO||20240101123000.5||ORU^R01^ORU_R01|m77||2.5.1`, `MSH|^~\&|TO||FROM||20240101123000.5||ACK^R01^ACK_R01|9||2.5.1` + "\rZAK|AA|m77"},
		{`MSH|^~\&|FROM||TO||20240101+0100||ORU^R01^ORU_R01|m77||2.7`, `MSH|^~\&|TO||FROM||20240101+0100||ACK^R01^ACK_R01|9||2.7` + "\rZAK|AA|m77"},
		// All else of the message stays behind.
		{`MSH|^~\&|FROM|HERE|TO|THERE|20240101||ADT^A01^ADT_A01|1||2.7||||||A~B` + "\rPID|||a||b\rZZZ|x\rPRT||A", `MSH|^~\&|TO||FROM||20240101||ACK^A01^ACK_A01|9||2.7` + "\rZAK|AA|1"},
		{`MSH|^~\&|FROM|HERE||THERE|20240101||ADT^A01|1||2.3` + "\rZAK|x|y|z\rZAK", `MSH|^~\&|FROM||FROM||20240101||ACK^A01|9||2.3` + "\rZAK|AA|1"},
		// Marks within, blanks, and an answer that is answered.
		{`MSH|^~\&|a\F\b\S\||\T\\E\\R\||20240101||ADT^A01|\F\1||2.3`, `MSH|^~\&|\T\\E\\R\||a\F\b\S\||20240101||ACK^A01|9||2.3` + "\rZAK|AA|\\F\\1"},
		{`MSH|^~\&| || ||20240101||ADT^A01| ||2.3`, `MSH|^~\&| || ||20240101||ACK^A01|9||2.3` + "\rZAK|AA| "},
		{`MSH|^~\&|TO||FROM||20240101||ACK^A01^ACK_A01|9||2.7` + "\rZAK|AA|1", `MSH|^~\&|FROM||TO||20240101||ACK^A01^ACK_A01|9||2.7` + "\rZAK|AA|9"},
	}
}

func TestAcknowledge(t *testing.T) {
	for _, c := range answerCases() {
		m := readLines(t, c.lines)
		got := impl.Acknowledge(m, "AA", "9")
		check(t, named("Acknowledge", c.lines), got, bridged(readLines(t, c.want)))
		same(t, named("its text", c.lines), impl.MessageText(got.Message), c.want+"\r")
		same(t, named("in order", c.lines), impl.CheckMessage(got.Message), impl.Finding{})
		for _, marks := range rightMarks() {
			m.Marks = marks
			want := readLines(t, c.want)
			want.Marks = marks
			check(t, named("Acknowledge by marks", marks, c.lines), impl.Acknowledge(m, "AA", "9"), bridged(want))
		}
	}
}

// MSH-3, MSH-5 and MSH-10 may be as long as a sub may be, and of nothing but marks.
func TestAcknowledgeLong(t *testing.T) {
	marked := strings.Repeat("|", 60)
	m := readLines(t, head27)
	m.Segments[0].Fields[0], m.Segments[0].Fields[7] = oneSub(marked), oneSub(marked)
	want := readLines(t, head27+"\rZAK|CE")
	want.Segments[0].Fields[0], want.Segments[0].Fields[2], want.Segments[0].Fields[7] = oneSub(marked), oneSub(marked), oneSub(marked)
	want.Segments[0].Fields[6] = impl.FieldRead(usual, "ACK^A01^ACK_A01").Field
	want.Segments[1].Fields = append(want.Segments[1].Fields, oneSub(marked))
	check(t, "Acknowledge of long ones", impl.Acknowledge(m, "CE", marked), bridged(want))
	// A message may have no text, and be answered.
	long := longMessage(t, 2*impl.MaxBytes)
	check(t, "Acknowledge of a long one", impl.Acknowledge(long, "AA", "9"), impl.Acknowledge(readLines(t, head23), "AA", "9"))
}

// checkAnswers: of a message of each version, that code and id are answered with, or refused.
func checkAnswers(t *testing.T, code string, id string, want int64) {
	t.Helper()
	for version := int64(1); version <= 3; version++ {
		got := impl.Acknowledge(readLines(t, versionHead(version)+"\rZZZ|x"), code, id)
		if want != impl.OK {
			check(t, named("Acknowledge", code, id), got, bridgeFault(want, ""))
			continue
		}
		answer := readLines(t, strings.Replace(spelt(`MSH|^~\&|A||A||20240101||KIND|id||VERSION`, "ACK^A01", version), "|id|", "|"+impl.EscapeOf(usual, id)+"|", 1)+"\rZAK|"+code+"|1")
		check(t, named("Acknowledge", code, id), got, bridged(answer))
	}
}

func TestAcknowledgeCode(t *testing.T) {
	for _, code := range []string{"AA", "AE", "AR", "CA", "ZZ", "AZ", "ZA", "MS"} {
		checkAnswers(t, code, "9", impl.OK)
	}
	for _, code := range []string{
		"", "A", "Z", "AAA", "AAAA", "a", "aa", "Aa", "aA", "A1", "1A", "11", "A ", " A", "  ", "A|", "^A", "A\r", "A\x00", "\xffA", "A\x80", "é", "@A", "[A", "A@", "A[",
		strings.Repeat("A", impl.MaxBytes),
	} {
		checkAnswers(t, code, "9", impl.ErrForm)
	}
	for b := range 256 {
		want := int64(impl.ErrForm)
		if b >= 'A' && b <= 'Z' {
			want = impl.OK
		}
		checkAnswers(t, string([]byte{byte(b), 'A'}), "9", want)
		checkAnswers(t, string([]byte{'A', byte(b)}), "9", want)
	}
}

func TestAcknowledgeId(t *testing.T) {
	for _, id := range []string{"9", " ", "-", "m 77", usual, "|", strings.Repeat("x", 59), strings.Repeat("x", 60), strings.Repeat("&", 60)} {
		checkAnswers(t, "AA", id, impl.OK)
	}
	checkAnswers(t, "AA", "", impl.ErrForm)
	for _, id := range wrongValues() {
		checkAnswers(t, "AA", id, impl.ErrForm)
	}
}

// First a text that is too long, then the form of m, then what CheckMessage finds, then code and id.
func TestAcknowledgeOrder(t *testing.T) {
	wrong := readLines(t, head23+"|x\rOBR")
	wrong.Segments[1].Name = "obr"
	for fault, m := range map[string]impl.Message{"": readLines(t, head23), "not right": wrong, "nothing": {}, "MSH-13": readLines(t, head23+"|x\rOBR"), "OBR[1]": readLines(t, head27+"\rOBR")} {
		for _, code := range []string{"AA", "a", "", huge(), strings.Repeat("A", impl.MaxBytes+1)} {
			for _, id := range []string{"9", "", "\n", strings.Repeat("x", 61), huge(), strings.Repeat("\n", impl.MaxBytes+1)} {
				got := impl.Acknowledge(m, code, id)
				what := fmt.Sprintf("Acknowledge of a fault %q by %.9q, %.9q", fault, code, id)
				switch {
				case len(code) > impl.MaxBytes || len(id) > impl.MaxBytes:
					check(t, what, got, bridgeFault(impl.ErrSize, ""))
				case fault == "not right" || fault == "nothing":
					check(t, what, got, bridgeFault(impl.ErrForm, ""))
				case fault != "":
					check(t, what, got, bridgeFault(impl.ErrSchema, fault))
				case code != "AA" || id != "9":
					check(t, what, got, bridgeFault(impl.ErrForm, ""))
				default:
					check(t, what, got, bridged(readLines(t, `MSH|^~\&|A||A||20240101||ACK^A01|9||2.3`+"\rZAK|AA|1")))
				}
			}
		}
	}
}
