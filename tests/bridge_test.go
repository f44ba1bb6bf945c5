package tests

import (
	"fmt"
	"slices"
	"strings"
	"testing"

	"loop.example/g00416/impl"
)

func bridged(m impl.Message) impl.BridgeOut { return impl.BridgeOut{Message: m} }

func bridgeFault(code int64, path string) impl.BridgeOut {
	return impl.BridgeOut{Path: path, Code: code}
}

// versionTexts stand at their versions.
var versionTexts = [4]string{"", "2.3", "2.5.1", "2.7"}

// readLines reads the message of these lines, the last one without its 13.
func readLines(t *testing.T, lines string) impl.Message {
	t.Helper()
	read := impl.MessageRead(lines + "\r")
	if read.Code != impl.OK {
		t.Fatalf("not read: %q", lines)
	}
	return read.Message
}

// spelt are the lines as that version has them: KIND and VERSION stand in them for what the bridge changes.
func spelt(lines string, kind string, version int64) string {
	if version > 1 {
		kind += "^" + strings.ReplaceAll(kind, "^", "_")
	}
	return strings.NewReplacer("KIND", kind, "VERSION", versionTexts[version]).Replace(lines)
}

const plainHead = `MSH|^~\&|A||||20240101||KIND|1||VERSION`

// carriedLines are in order in each version.
func carriedLines() []string {
	return []string{
		plainHead,
		`MSH|^~\&|A|B|C|D|20240101123059||KIND|1||VERSION`,
		`MSH|^~\&| |\F\|\S\\T\|-|20240101||KIND|2.3||VERSION`,
		plainHead + "\rPID|1||id~other~third||Smith^John^^^Dr~Smith&Jones^J|||F\rPV1||I|||||1^Who^J~2",
		plainHead + "\rPID|1||id||Smith||20240229\rNTE|1||a~b\rNTE|-1.5||c\rNTE\rOBX|1||a^^^^^f||b~c|||||||||2024022912",
		plainHead + "\rZZ1|x\rPID|||a||b\rZPI|~x^&y||z\rZZ1\rPV1||AB\rPV1||NN\rZAK|2.3|2.5.1^2.7|KIN",
		plainHead + "\rZMS|VERSIO|ADT^A01|ADT^A01^ADT_A01||" + strings.Repeat("|", 25) + "x" + strings.Repeat("\rZZ1|x", 18),
	}
}

func TestBridgesOfEachVersion(t *testing.T) {
	for _, kind := range []string{"ADT^A01", "ACK^Z9Z", "AAA^AAA", "ZZZ^MSH"} {
		for _, lines := range carriedLines() {
			for from := int64(1); from <= 3; from++ {
				checkCarried(t, lines, kind, from)
			}
		}
	}
}

// checkCarried: from that version all bridges lead to what the lines spell, and none leads beyond the three.
func checkCarried(t *testing.T, lines string, kind string, from int64) {
	t.Helper()
	m := readLines(t, spelt(lines, kind, from))
	what := named(fmt.Sprint("from ", from), kind, lines)
	same(t, what+": in order", impl.CheckMessage(m), impl.Finding{})
	for to := int64(1); to <= 3; to++ {
		check(t, what+fmt.Sprint(": Bring to ", to), impl.Bring(m, to), bridged(readLines(t, spelt(lines, kind, to))))
	}
	up, down := bridgeFault(impl.ErrRange, ""), bridgeFault(impl.ErrRange, "")
	if from < 3 {
		up = bridged(readLines(t, spelt(lines, kind, from+1)))
	}
	if from > 1 {
		down = bridged(readLines(t, spelt(lines, kind, from-1)))
	}
	check(t, what+": UpOne", impl.UpOne(m), up)
	check(t, what+": DownOne", impl.DownOne(m), down)
}

// The Marks stay, whatever they are, also where one of them stands in the third Comp of MSH-9.
func TestBridgesByOtherMarks(t *testing.T) {
	for _, marks := range rightMarks() {
		for _, lines := range carriedLines() {
			var by [4]impl.Message
			for version := int64(1); version <= 3; version++ {
				by[version] = readLines(t, spelt(lines, "ADT^A01", version))
				by[version].Marks = marks
			}
			what := named("by marks", marks, lines)
			check(t, what+": up from 1", impl.UpOne(by[1]), bridged(by[2]))
			check(t, what+": up from 2", impl.UpOne(by[2]), bridged(by[3]))
			check(t, what+": down from 3", impl.DownOne(by[3]), bridged(by[2]))
			check(t, what+": down from 2", impl.DownOne(by[2]), bridged(by[1]))
			check(t, what+": up from 3", impl.UpOne(by[3]), bridgeFault(impl.ErrRange, ""))
			check(t, what+": down from 1", impl.DownOne(by[1]), bridgeFault(impl.ErrRange, ""))
			check(t, what+": two up", impl.Bring(by[1], 3), bridged(by[3]))
			check(t, what+": two down", impl.Bring(by[3], 1), bridged(by[1]))
		}
	}
}

func TestUpOneTexts(t *testing.T) {
	m := readLines(t, head23)
	same(t, "up from 1", impl.MessageText(impl.UpOne(m).Message), head251+"\r")
	same(t, "up from 2", impl.MessageText(impl.UpOne(readLines(t, head251)).Message), head27+"\r")
	m.Marks = "@[]_`"
	same(t, "up, by a mark in MSH-9", impl.MessageText(impl.UpOne(m).Message), "MSH@[]_`@A@@@@20240101@@ADT[A01[ADT_E_A01@1@@2.5.1\r")
}

// What a version has and the one ahead has not goes up with all else.
func TestUpOneFromTheSecond(t *testing.T) {
	for _, behind := range []string{
		"||||||A~N", "\rSFT|a|b", "\rPID|||id||Smith|||A||a^b^c^d^e^f", "\rPV1||N|||||a&b^c^d^e^f^g^h^i&j~k", "\rOBX|||x|||||||||||20240101123000.1234||||y", "\rNTE\rSFT|a|b\rZZZ|c",
	} {
		second, third := readLines(t, head251+behind), readLines(t, head27+behind)
		check(t, named("UpOne", behind), impl.UpOne(second), bridged(third))
		check(t, named("Bring to 3", behind), impl.Bring(second, 3), bridged(third))
		check(t, named("DownOne", behind), impl.DownOne(third), bridged(second))
		check(t, named("Bring to 2", behind), impl.Bring(third, 2), bridged(second))
	}
}

// longMessage is in order, of the first version, and its text has so many bytes.
func longMessage(t *testing.T, bytes int) impl.Message {
	t.Helper()
	m := readLines(t, head23)
	for _, sizes := range fillSizes(bytes - len(head23+"\r")) {
		s := segmentOf("ZZZ")
		for _, size := range sizes {
			s.Fields = append(s.Fields, oneSub(strings.Repeat("x", size)))
		}
		m.Segments = append(m.Segments, s)
	}
	return m
}

// A message is right whatever its text has: one that grows beyond MaxBytes goes up like any other, and comes down.
func TestUpOneNearMaxBytes(t *testing.T) {
	grown := len(head251) - len(head23)
	for bytes := impl.MaxBytes - grown - 3; bytes <= impl.MaxBytes+3; bytes++ {
		m := longMessage(t, bytes)
		want := bytes
		if bytes > impl.MaxBytes {
			want = 0
		}
		same(t, "bytes", len(impl.MessageText(m)), want)
		up := impl.UpOne(m)
		check(t, named("UpOne", bytes), up, bridged(turned(m, 2)))
		want = bytes + grown
		if want > impl.MaxBytes {
			want = 0
		}
		same(t, "bytes up", len(impl.MessageText(up.Message)), want)
		check(t, named("DownOne", bytes), impl.DownOne(up.Message), bridged(m))
		check(t, named("Bring", bytes), impl.Bring(m, 3), bridged(turned(m, 3)))
	}
}

// turned is the message with MSH-9 and MSH-12 laid by hand as that version has them; all else is as it was.
func turned(m impl.Message, version int) impl.Message {
	fields := slices.Clone(m.Segments[0].Fields)
	kind := fields[6].Reps[0].Comps
	one, two := kind[0].Subs[0], kind[1].Subs[0]
	fields[6] = fieldOf(repOf(compOf(one), compOf(two)))
	if version > 1 {
		fields[6] = fieldOf(repOf(compOf(one), compOf(two), compOf(one+"_"+two)))
	}
	fields[9] = oneSub(versionTexts[version])
	segments := slices.Clone(m.Segments)
	segments[0].Fields = fields
	return impl.Message{Marks: m.Marks, Segments: segments}
}

// toNumbers: versions, and numbers that are none.
func toNumbers() []int64 { return append(anyVersions(), 4, 0, -1) }

// checkRefused: each bridge tells this, whatever else it is asked.
func checkRefused(t *testing.T, what string, m impl.Message, want impl.BridgeOut) {
	t.Helper()
	check(t, "UpOne of "+what, impl.UpOne(m), want)
	check(t, "DownOne of "+what, impl.DownOne(m), want)
	for _, to := range toNumbers() {
		check(t, fmt.Sprint("Bring to ", to, " of ", what), impl.Bring(m, to), want)
	}
	for _, code := range []string{"AA", "a", "", "AAA"} {
		for _, id := range []string{"9", "", "\n", strings.Repeat("9", 61)} {
			check(t, named("Acknowledge of "+what, code, id), impl.Acknowledge(m, code, id), want)
		}
	}
}

func TestBridgesForm(t *testing.T) {
	for name, m := range wrongMessages() {
		checkRefused(t, name, m, bridgeFault(impl.ErrForm, ""))
	}
	for name, f := range wrongFields() {
		for _, lines := range []string{head23, head251, head27} {
			m := readLines(t, lines+"\rZZZ|a")
			m.Segments[1].Fields[0] = f
			checkRefused(t, name, m, bridgeFault(impl.ErrForm, ""))
		}
	}
	m := readLines(t, head27+"|x\rPID")
	m.Segments[1].Fields = []impl.Field{{}}
	checkRefused(t, "no form, ahead of what is out of order", m, bridgeFault(impl.ErrForm, ""))
}

// What CheckMessage finds is told ahead of a version that there is not.
func TestBridgesSchema(t *testing.T) {
	told := 0
	for _, c := range messageCases() {
		if c.path == "" || c.path == "none" {
			continue
		}
		told++
		m := readLines(t, c.lines)
		same(t, named("CheckMessage", c.lines), impl.CheckMessage(m), impl.Finding{Path: c.path, Code: impl.ErrSchema})
		checkRefused(t, named("a fault", c.lines), m, bridgeFault(impl.ErrSchema, c.path))
	}
	if told < 60 {
		t.Errorf("only %d have a fault", told)
	}
	for _, lines := range []string{head23, head251, head27} {
		checkRefused(t, "the fault that there is, of each version", readLines(t, lines+"\rPV1||I\rPV1||i\rOBR"), bridgeFault(impl.ErrSchema, "PV1[2]-2"))
	}
}

func TestBringToNoVersion(t *testing.T) {
	for _, lines := range []string{head23, head251, head27, head27 + "\rPRT||A", head23 + "\rZZZ|x"} {
		for _, to := range append(noVersions(), 0, 4, -1) {
			check(t, fmt.Sprintf("Bring to %d of %q", to, lines), impl.Bring(readLines(t, lines), to), bridgeFault(impl.ErrRange, ""))
		}
	}
}

// carryCase: what stands behind the head of that version, and what can't be carried to the one ahead.
type carryCase struct {
	version int64
	behind  string
	path    string
}

func carryCases() []carryCase {
	return []carryCase{
		// Segments that the elder version does not know.
		{3, "\rPRT||A", "PRT[1]"}, {3, "\rNTE\rPRT||A\rPRT||A", "PRT[1]"}, {2, "\rSFT|a|b", "SFT[1]"}, {2, "\rNTE\rSFT|a|b\rSFT|c|d", "SFT[1]"},
		// Fields of a later Since.
		{2, "||||||ABC", "MSH-18"}, {2, "||||||B~C", "MSH-18"}, {2, "\rPID|||a||b|||||x", "PID-10"}, {2, "\rOBX|||x|||||||||||||||y", "OBX-18"},
		// A code A or N.
		{2, "\rPID|||a||b|||A", "PID-8"}, {2, "\rPID|||a||b|||N", "PID-8"}, {2, "\rPV1||A", "PV1-2"}, {2, "\rPV1||N", "PV1-2"},
		// A person of more Comps than three, or with more Subs than one.
		{2, "\rPV1||I|||||a^b^c^d", "PV1-7"}, {2, "\rPV1||I|||||a~b^c^d^e", "PV1-7"}, {2, "\rPV1||I|||||a&b", "PV1-7"}, {2, "\rPV1||I|||||a^b^&c", "PV1-7"}, {2, "\rPV1||I|||||a~b&c~d", "PV1-7"},
		// A coded one of more Comps than six.
		{3, "\rOBX|||a^b^c^d^e^f^g", "OBX-3"}, {3, "\rOBX|||a^^^^^^g^^i", "OBX-3"}, {3, "\rPID|||a||b|||||a^b^c^d^e^f^g", "PID-10"},
		// A time with a zone, or with a fraction.
		{3, "\rOBX|||x|||||||||||20240101+0100", "OBX-14"}, {3, "\rOBX|||x|||||||||||20240101123000.1-0000", "OBX-14"}, {2, "\rOBX|||x|||||||||||20240101123000.1", "OBX-14"},
		// The first of two, by their places.
		{3, "\rPRT||A\rOBX|||a^b^c^d^e^f^g", "PRT[1]"}, {3, "\rOBX|||a^b^c^d^e^f^g\rPRT||A", "OBX-3"}, {3, "\rOBX|||a^b^c^d^e^f^g|||||||||||20240101+0100", "OBX-3"}, {3, "\rPV1||A\rPRT||A", "PRT[1]"},
		{2, "||||||A\rSFT|a|b", "MSH-18"}, {2, "\rSFT|a|b\rPV1||A", "SFT[1]"}, {2, "\rPV1||A\rSFT|a|b", "PV1-2"}, {2, "\rPV1||N|||||a&b", "PV1-2"}, {2, "\rPID|||a||b|||A||x", "PID-8"}, {2, "\rOBX|||x|||||||||||20240101123000.1||||y", "OBX-14"},
		// Of a Name's second or later one, houses' own and others between.
		{2, "\rPV1||I\rPV1||A", "PV1[2]-2"}, {2, "\rPV1||I\rZZZ|x\rPV1||I\rNTE\rPV1||I|||||a&b", "PV1[3]-7"}, {3, "\rOBX|||x\rOBX|||y|||||||||||20240101+0100", "OBX[2]-14"}, {3, "\rPID|||a||b\rPID|||a||b|||||" + comps("a", 9), "PID[2]-10"},
		{2, strings.Repeat("\rOBX|||x", 18) + "\rOBX|||x|||||||||||||||y", "OBX[19]-18"},
	}
}

func versionHead(version int64) string { return [4]string{"", head23, head251, head27}[version] }

func TestDownOneCarry(t *testing.T) {
	for _, c := range carryCases() {
		m := readLines(t, versionHead(c.version)+c.behind)
		want := bridgeFault(impl.ErrCarry, c.path)
		same(t, named("in order", c.behind), impl.CheckMessage(m), impl.Finding{})
		check(t, named("DownOne", c.behind), impl.DownOne(m), want)
		check(t, named("Bring one down", c.behind), impl.Bring(m, c.version-1), want)
		check(t, named("Bring to 1", c.behind), impl.Bring(m, 1), want)
		check(t, named("Bring to its own", c.behind), impl.Bring(m, c.version), bridged(m))
		m.Marks = "@[]_`"
		check(t, named("DownOne by other marks", c.behind), impl.DownOne(m), want)
	}
}

// MSH-7 is ahead of all that stands behind it.
func TestDownOneCarryHead(t *testing.T) {
	for time, from := range map[string]int64{"20240101+0100": 3, "20240101123000.1+0100": 3, "20240101123059-1459": 3, "20240101123000.1": 2, "20240101123000.1234": 2} {
		for _, behind := range []string{"", "||||||A", "\rPV1||A", "\rZZZ"} {
			m := readLines(t, strings.Replace(versionHead(from), "20240101", time, 1)+behind)
			check(t, named("DownOne", time, behind), impl.DownOne(m), bridgeFault(impl.ErrCarry, "MSH-7"))
			check(t, named("Bring to 1", time, behind), impl.Bring(m, 1), bridgeFault(impl.ErrCarry, "MSH-7"))
		}
	}
}

// What goes down to the second, and no further: the place is that of the second step.
func TestBringSecondStep(t *testing.T) {
	for _, c := range carryCases() {
		if c.version == 3 {
			continue
		}
		m := readLines(t, head27+c.behind)
		check(t, named("one down", c.behind), impl.Bring(m, 2), bridged(turned(m, 2)))
		check(t, named("two down", c.behind), impl.Bring(m, 1), bridgeFault(impl.ErrCarry, c.path))
	}
	m := readLines(t, head27+"\rPV1||A\rPRT||A")
	check(t, "the first step's is told", impl.Bring(m, 1), bridgeFault(impl.ErrCarry, "PRT[1]"))
	m = readLines(t, head27+"\rPV1||I\rPV1||A\rOBX|||x|||||||||||20240101123000.1")
	check(t, "one down", impl.Bring(m, 2), bridged(turned(m, 2)))
	check(t, "the second step's first is told", impl.Bring(m, 1), bridgeFault(impl.ErrCarry, "PV1[2]-2"))
}

// Bring to the version that it has asks for what all bridges ask, and nothing else.
func TestBringNowhere(t *testing.T) {
	for _, c := range messageCases() {
		if c.path != "" {
			continue
		}
		m := readLines(t, c.lines)
		version := impl.VersionOf(impl.ValueAt(m, first("MSH", 12)))
		check(t, named("Bring to its own", c.lines), impl.Bring(m, version), bridged(m))
	}
}
