package tests

import (
	"fmt"
	"slices"
	"strings"
	"testing"

	"loop.example/g00416/impl"
)

// head is how a text begins that has the usual marks.
const head = "MSH" + usual

func segmentOf(name string, fields ...impl.Field) impl.Segment {
	return impl.Segment{Name: name, Fields: fields}
}

func messageOf(segments ...impl.Segment) impl.Message {
	return impl.Message{Marks: usual, Segments: segments}
}

func segmentTold(s impl.Segment) impl.SegmentOut  { return impl.SegmentOut{Segment: s} }
func segmentFault(code int64) impl.SegmentOut     { return impl.SegmentOut{Code: code} }
func messageTold(m impl.Message) impl.MessageOut  { return impl.MessageOut{Message: m} }
func messageFault(code int64) impl.MessageOut     { return impl.MessageOut{Code: code} }
func manyFields(f impl.Field, n int) []impl.Field { return slices.Repeat([]impl.Field{f}, n) }

func manySegments(s impl.Segment, n int) []impl.Segment {
	return slices.Repeat([]impl.Segment{s}, n)
}

// headed: a message of MSH, and these behind it.
func headed(segments ...impl.Segment) impl.Message {
	return messageOf(append([]impl.Segment{segmentOf("MSH", oneSub("A"))}, segments...)...)
}

// textSegment is a right Segment, and its text by the usual marks.
type textSegment struct {
	segment impl.Segment
	text    string
}

// rightSegments stand at the edges that chapter 5 names.
func rightSegments() map[string]textSegment {
	a, none := oneSub("a"), impl.Field{}
	return map[string]textSegment{
		"no Field":               {segmentOf("PID"), "PID"},
		"an empty list":          {segmentOf("PID", []impl.Field{}...), "PID"},
		"one Field":              {segmentOf("PID", a), "PID|a"},
		"digits in the Name":     {segmentOf("Z09", a), "Z09|a"},
		"A and Z in the Name":    {segmentOf("AZ0", a), "AZ0|a"},
		"empty Fields ahead":     {segmentOf("PID", none, none, a), "PID|||a"},
		"an empty Field inside":  {segmentOf("PID", a, none, a), "PID|a||a"},
		"30 Fields":              {segmentOf("PV1", manyFields(a, 30)...), "PV1" + strings.Repeat("|a", 30)},
		"29 empty Fields ahead":  {segmentOf("PV1", append(manyFields(none, 29), a)...), "PV1" + strings.Repeat("|", 30) + "a"},
		"MSH of one":             {segmentOf("MSH", a), head + "|a"},
		"MSH, an empty one":      {segmentOf("MSH", none, a), head + "||a"},
		"MSH of 30":              {segmentOf("MSH", manyFields(a, 30)...), head + strings.Repeat("|a", 30)},
		"a mark in a Field":      {segmentOf("OBX", oneSub("x|y")), `OBX|x\F\y`},
		"parts in a Field":       {segmentOf("OBX", fieldOf(impl.Rep{}, repOf(impl.Comp{}, compOf("", "x"))), a), "OBX|~^&x|a"},
		"what the tests ask for": {segmentOf("PID", oneSub("1"), none, oneSub("x")), "PID|1||x"},
	}
}

// wrongSegments stand a step beyond those edges.
func wrongSegments() map[string]impl.Segment {
	a, none := oneSub("a"), impl.Field{}
	list := map[string]impl.Segment{
		"no Name":                         segmentOf("", a),
		"31 Fields":                       segmentOf("PID", manyFields(a, 31)...),
		"31 Fields, 30 of them empty":     segmentOf("PID", append(manyFields(none, 30), a)...),
		"31 Fields of MSH":                segmentOf("MSH", manyFields(a, 31)...),
		"more than a list may have":       segmentOf("PID", manyFields(a, impl.MaxList+1)...),
		"an empty last one":               segmentOf("PID", a, none),
		"only an empty one":               segmentOf("PID", none),
		"a last one of an empty list":     segmentOf("PID", a, fieldOf([]impl.Rep{}...)),
		"MSH without":                     segmentOf("MSH"),
		"MSH of an empty list":            segmentOf("MSH", []impl.Field{}...),
		"MSH of an empty one":             segmentOf("MSH", none),
		"a Name of more than MaxBytes":    segmentOf(strings.ToUpper(huge()), a),
		"a Name of a rune and a byte":     segmentOf("éA", a),
		"a Name that ends with a rune":    segmentOf("Aé", a),
		"a Name with a mark":              segmentOf("PI|", a),
		"a Name of 3 with one wrong byte": segmentOf("P\xffD", a),
	}
	for _, name := range []string{"P", "PI", "PIDS", "pid", "Pid", "PId", "1ID", "999", "0AB", "P D", "P_D", "P-D", "PI@", "PI[", "PI/", "PI:", "@ID", "[ID"} {
		list["the Name "+name] = segmentOf(name, a)
	}
	for name, f := range wrongFields() {
		list["a Field of "+name] = segmentOf("PID", f)
		list["a Field ahead of "+name] = segmentOf("PID", a, f, a)
	}
	return list
}

func TestSegmentRight(t *testing.T) {
	for name, c := range rightSegments() {
		check(t, "SegmentRight: "+name, impl.SegmentRight(c.segment), true)
	}
	for name, s := range wrongSegments() {
		check(t, "SegmentRight: "+name, impl.SegmentRight(s), false)
	}
}

func TestSegmentText(t *testing.T) {
	for name, c := range rightSegments() {
		check(t, "SegmentText: "+name, impl.SegmentText(usual, c.segment), c.text)
		for _, marks := range append(wrongMarks(), huge()) {
			check(t, "SegmentText by wrong marks: "+name, impl.SegmentText(marks, c.segment), "")
		}
	}
	for name, s := range wrongSegments() {
		check(t, "SegmentText: "+name, impl.SegmentText(usual, s), "")
	}
	odd := segmentOf("MSH", oneSub("a!|"), fieldOf(repOf(compOf("b"), compOf("c", "d")), repOf(compOf("e"))))
	check(t, "SegmentText by other marks", impl.SegmentText("!\"#$%", odd), `MSH!"#$%!a$F$|!b"c%d#e`)
	long := segmentOf("ZZZ", manyFields(fieldOf(manyComps(compOf(strings.Repeat("x", 60)), 10)), 30)...)
	if got := len(impl.SegmentText(usual, long)); got != 3+30*610 {
		t.Errorf("SegmentText of more than MaxBytes has %d bytes", got)
	}
}

func TestSegmentRead(t *testing.T) {
	for name, c := range rightSegments() {
		check(t, "SegmentRead: "+name, impl.SegmentRead(usual, c.text), segmentTold(c.segment))
	}
	odd := segmentOf("MSH", oneSub("a!|"), fieldOf(repOf(compOf("b"), compOf("c", "d")), repOf(compOf("e"))))
	check(t, "SegmentRead by other marks", impl.SegmentRead("!\"#$%", `MSH!"#$%!a$F$|!b"c%d#e`), segmentTold(odd))
}

// brokenSegments are no right Segment's text, by the usual marks.
func brokenSegments() []string {
	list := []string{
		"", "P", "PI", "P|", "PI|a", "PIDa", "PID^a", "PIDS|a", "pid|a", "1ID|a", "P D|a", "|a", "||||", "PID ", " PID", "PID|", "PID|a|", "PID||", "PID|a||",
		"PID|a^", "PID|a^|b", "PID|~", "PID|~|a", "PID|a\r", "PID\r", "PID|a\n", "PI\xff|a", "éA|a",
		"MS", "MSH", "MSH|", "MSH|a", "MSH|^", "MSH|^~", `MSH|^~\`, head, head + "|", head + "||", head + "a", head + "^a", head + "|a|", head + `!|a`,
		`MSH|^~\!|a`, `MSH!^~\&!a`, `MSH!^~\&|a`, `MSH|~^\&|a`, "MSH!\"#$%!a", "MSH||a", "MSH||||||a",
		"PID" + strings.Repeat("|a", 31), "PID" + strings.Repeat("|", 31) + "a", head + strings.Repeat("|a", 31), "PID" + strings.Repeat("|", 31),
	}
	for _, text := range brokenFields() {
		if !strings.Contains(text, "|") && len(text) < impl.MaxBytes-10 {
			list = append(list, "PID|"+text, "PID|a|"+text+"|a", head+"|"+text)
		}
	}
	return list
}

func TestSegmentReadFaultOrder(t *testing.T) {
	call := func(marks string, text string) any { return impl.SegmentRead(marks, text) }
	checkFaultOrder(t, "SegmentRead", brokenSegments(), call, func(code int64) any { return segmentFault(code) })
}

// textMessage is a right Message, and its text.
type textMessage struct {
	message impl.Message
	text    string
}

// rightMessages stand at the edges that chapter 5 names.
func rightMessages() map[string]textMessage {
	pid := segmentOf("PID", oneSub("1"))
	odd := impl.Message{Marks: "!\"#$%", Segments: []impl.Segment{segmentOf("MSH", oneSub("|!")), segmentOf("ZZ1", fieldOf(repOf(compOf("a"), compOf("$"))))}}
	return map[string]textMessage{
		"MSH alone":            {headed(), head + "|A\r"},
		"two":                  {headed(pid), head + "|A\rPID|1\r"},
		"two alike":            {headed(pid, pid), head + "|A\rPID|1\rPID|1\r"},
		"20 Segments":          {headed(manySegments(pid, 19)...), head + "|A\r" + strings.Repeat("PID|1\r", 19)},
		"one without Fields":   {headed(segmentOf("ZZZ"), pid), head + "|A\rZZZ\rPID|1\r"},
		"without Fields, last": {headed(segmentOf("ZZZ")), head + "|A\rZZZ\r"},
		"other marks":          {odd, "MSH!\"#$%!|$F$\rZZ1!a\"$E$\r"},
		"MaxBytes":             {filledMessage(impl.MaxBytes), filledText(impl.MaxBytes)},
		"one byte less":        {filledMessage(impl.MaxBytes - 1), filledText(impl.MaxBytes - 1)},
	}
}

// fillSizes: of how many bytes the Fields are, a mark ahead of each, of ZZZ Segments that fill so many bytes.
func fillSizes(bytes int) [][]int {
	var list [][]int
	for bytes > 0 {
		size := min(bytes, 4+30*61)
		if left := bytes - size; left > 0 && left < 8 {
			size -= 8
		}
		bytes -= size
		var fields []int
		for left := size - 4; left > 0; {
			step := min(left, 61)
			if left-step == 1 {
				step--
			}
			fields = append(fields, step-1)
			left -= step
		}
		list = append(list, fields)
	}
	return list
}

// filledMessage: a right message but for its size, of a text of so many bytes (20 or more).
func filledMessage(bytes int) impl.Message {
	m := headed()
	for _, sizes := range fillSizes(bytes - len(head+"|A\r")) {
		s := segmentOf("ZZZ")
		for _, size := range sizes {
			s.Fields = append(s.Fields, oneSub(strings.Repeat("x", size)))
		}
		m.Segments = append(m.Segments, s)
	}
	return m
}

func filledText(bytes int) string {
	text := head + "|A\r"
	for _, sizes := range fillSizes(bytes - len(text)) {
		text += "ZZZ"
		for _, size := range sizes {
			text += "|" + strings.Repeat("x", size)
		}
		text += "\r"
	}
	return text
}

func TestFilledHasItsSize(t *testing.T) {
	for bytes := 30; bytes <= impl.MaxBytes+5; bytes++ {
		if got := len(filledText(bytes)); got != bytes {
			t.Fatalf("filled to %d bytes: %d", bytes, got)
		}
	}
}

// wrongMessages stand a step beyond those edges.
func wrongMessages() map[string]impl.Message {
	msh, pid := segmentOf("MSH", oneSub("A")), segmentOf("PID", oneSub("1"))
	list := map[string]impl.Message{
		"nothing":               {},
		"no Segments":           messageOf(),
		"an empty list":         messageOf([]impl.Segment{}...),
		"without MSH":           messageOf(pid),
		"MSH not first":         messageOf(pid, msh),
		"two MSH":               messageOf(msh, msh),
		"two MSH, one between":  messageOf(msh, pid, msh),
		"21 Segments":           headed(manySegments(pid, 20)...),
		"more than a list":      headed(manySegments(pid, impl.MaxList)...),
		"MSH without Fields":    messageOf(segmentOf("MSH"), pid),
		"an MSH without at end": messageOf(msh, segmentOf("MSH")),
	}
	for _, marks := range append(wrongMarks(), huge()) {
		list[named("Marks", marks)] = impl.Message{Marks: marks, Segments: []impl.Segment{msh, pid}}
	}
	for name, s := range wrongSegments() {
		list["a Segment of "+name] = headed(pid, s)
		list["a Segment ahead of "+name] = headed(s, pid)
		list["a first Segment of "+name] = messageOf(s, pid)
	}
	return list
}

func TestMessageRight(t *testing.T) {
	for name, c := range rightMessages() {
		check(t, "MessageRight: "+name, impl.MessageRight(c.message), true)
	}
	for name, m := range wrongMessages() {
		check(t, "MessageRight: "+name, impl.MessageRight(m), false)
	}
	check(t, "MessageRight of more than MaxBytes", impl.MessageRight(filledMessage(impl.MaxBytes+1)), true)
}

func TestMessageText(t *testing.T) {
	for name, c := range rightMessages() {
		check(t, "MessageText: "+name, impl.MessageText(c.message), c.text)
	}
	for name, m := range wrongMessages() {
		check(t, "MessageText: "+name, impl.MessageText(m), "")
	}
	check(t, "MessageText of a byte too many", impl.MessageText(filledMessage(impl.MaxBytes+1)), "")
	check(t, "MessageText of much too many", impl.MessageText(filledMessage(4*impl.MaxBytes)), "")
	// The size is that of the text, in which a mark has three bytes.
	marked := filledMessage(impl.MaxBytes - 1)
	marked.Segments[1].Fields[0] = oneSub("|" + strings.Repeat("x", 59))
	check(t, "MessageText of two bytes by a mark", impl.MessageText(marked), "")
	marked = filledMessage(impl.MaxBytes - 2)
	marked.Segments[1].Fields[0] = oneSub("|" + strings.Repeat("x", 59))
	if got := len(impl.MessageText(marked)); got != impl.MaxBytes {
		t.Errorf("MessageText of a mark, to MaxBytes, has %d bytes", got)
	}
}

// brokenMessages are no right Message's text, nor read loosely as one.
func brokenMessages() []string {
	list := []string{
		"", "\r", "\n", "\r\n", "M", "MSH", head[:7], head, head + "\r", head + "|\r", head + "||||\r", head + "|~^&|\r", head + "A\r", "PID|1\r", "PID|^~\\&|A\r", "PID|1\r" + head + "|A\r",
		head + "|A\r" + head + "|A\r", head + "|A\rPID|1\r" + head + "|A\r", head + "|A\rMSH!\"#$%!A\r", head + "|A\rMSH\r", head + "|A\rMSH|A\r",
		head + "|A\r\r", head + "|A\r\rPID|1\r", "\r" + head + "|A\r", head + "|A\rPID|1\r\r", head + "|A\r\r\r",
		head + "|A\n", head + "|A\nPID|1\r", "\n" + head + "|A\r", head + "|A\n\r", head + "|A\rPID|1\nPID|2\r", head + "|A\r\n\nPID|1\r", head + "|A\r\n\n", head + "|A\r\n\r\n", head + "|A\rPI\nD\r",
		head + "|A\rPID|\x1f\r", head + "|A\rPID|\x7f\r", head + "|A\rPID|\x80\r", head + "|Müller\r", head + "|A\rPIDa\r", head + "|A\rP\r", head + "|A\rpid|a\r", head + "|A\r1ID\r", head + "|A\rPIDS|a\r", head + "|A\r|a\r", head + "|A\r \r",
		head + "|A\r" + strings.Repeat("PID|1\r", 20), head + "|" + strings.Repeat("x", 61) + "\r", head + strings.Repeat("|a", 31) + "\r", head + "|" + strings.Repeat("a~", 5) + "a\r",
		head + "|" + strings.Repeat("a^", 10) + "a\r", head + "|" + strings.Repeat("a&", 5) + "a\r", head + "|" + strings.Repeat("&", 5) + "a\r", head + strings.Repeat("|", 31) + "a\r", strings.Repeat("x", impl.MaxBytes), strings.Repeat("\r", impl.MaxBytes),
	}
	for _, marks := range wrongMarks() {
		if len(marks) == 5 {
			list = append(list, "MSH"+marks+marks[:1]+"A\r")
		}
	}
	return list
}

func TestMessageRead(t *testing.T) {
	for name, c := range rightMessages() {
		check(t, "MessageRead: "+name, impl.MessageRead(c.text), messageTold(c.message))
	}
	for _, text := range brokenMessages() {
		check(t, named("MessageRead", text), impl.MessageRead(text), messageFault(impl.ErrSyntax))
	}
	for _, text := range []string{huge(), filledText(impl.MaxBytes + 1), strings.Repeat("\r\n", impl.MaxBytes)} {
		check(t, named("MessageRead", text), impl.MessageRead(text), messageFault(impl.ErrSize))
		check(t, named("MessageLoose", text), impl.MessageLoose(text), messageFault(impl.ErrSize))
	}
}

// looseMessages are read loosely alone: by their texts the texts that they are read as.
func looseMessages() map[string]string {
	x59 := strings.Repeat("x", 59)
	list := map[string]string{
		head + "|A":                            head + "|A\r",
		head + "|A\rPID|1":                     head + "|A\rPID|1\r",
		head + "|A\rPID":                       head + "|A\rPID\r",
		head + "|A\r\n":                        head + "|A\r",
		head + "|A\r\nPID|1\r\n":               head + "|A\rPID|1\r",
		head + "|A\r\nPID|1\rZZZ\r\n":          head + "|A\rPID|1\rZZZ\r",
		head + "|A\r\nPID|1":                   head + "|A\rPID|1\r",
		head + "|A|\r\nPID|1||^\r":             head + "|A\rPID|1\r",
		head + "|A|||\rPID|\r":                 head + "|A\rPID\r",
		head + "||A|":                          head + "||A\r",
		head + "|A\rPID|a~\r":                  head + "|A\rPID|a\r",
		head + "|A\rPID|a~~|b\r":               head + "|A\rPID|a|b\r",
		head + "|A\rPID|a^\r":                  head + "|A\rPID|a\r",
		head + "|A\rPID|a^^~b^\r":              head + "|A\rPID|a~b\r",
		head + "|A\rPID|a&\r":                  head + "|A\rPID|a\r",
		head + "|A\rPID|a&&^b&~c&\r":           head + "|A\rPID|a^b~c\r",
		head + "|A\rPID|&^&~^&|&|~|^\r":        head + "|A\rPID\r",
		head + "|A\rPID|&^&a&&^&~^&|&|x~&|^\r": head + "|A\rPID|^&a||x\r",
		head + "|A\rPID|~a~\r":                 head + "|A\rPID|~a\r",
		head + "|A\rPID|&~a\r":                 head + "|A\rPID|~a\r",
		head + "|A\rPID|^~^~a\r":               head + "|A\rPID|~~a\r",
		head + "|A\rPID|&^a\r":                 head + "|A\rPID|^a\r",
		head + `|A\X\`:                         head + `|A\E\X\E\` + "\r",
		head + `|\`:                            head + `|\E\` + "\r",
		head + `|\\`:                           head + `|\E\\E\` + "\r",
		head + `|\\\`:                          head + `|\E\\E\\E\` + "\r",
		head + `|\F`:                           head + `|\E\F` + "\r",
		head + `|\F\F\`:                        head + `|\F\F\E\` + "\r",
		head + `|\\F\`:                         head + `|\E\\F\` + "\r",
		head + `|\F|\S^\R~\T&\E` + "\r":        head + `|\E\F|\E\S^\E\R~\E\T&\E\E` + "\r",
		head + `|\|\` + "\r":                   head + `|\E\|\E\` + "\r",
		head + `|\f\` + "\rPID|\\":             head + `|\E\f\E\` + "\rPID|\\E\\\r",
		head + `|a\.br\b`:                      head + `|a\E\.br\E\b` + "\r",
		head + "|" + x59 + `\`:                 head + "|" + x59 + `\E\` + "\r",
		"MSH!\"#$%!a$%\"#!!\r\nPID!$X":         "MSH!\"#$%!a$E$\rPID!$E$X\r",
		// What counts for nothing does not count as too many.
		head + "|A" + strings.Repeat("|", 100):                          head + "|A\r",
		head + "|" + strings.Repeat("a|", 30) + strings.Repeat("|", 99): head + strings.Repeat("|a", 30) + "\r",
		head + "|" + strings.Repeat("a~", 5) + strings.Repeat("~", 99):  head + "|a~a~a~a~a\r",
		head + "|a" + strings.Repeat("^", 99):                           head + "|a\r",
		head + "|a" + strings.Repeat("&", 99):                           head + "|a\r",
		head + "|a" + strings.Repeat("~^&", 99):                         head + "|a\r",
		head + "|A" + strings.Repeat("|", impl.MaxBytes-10):             head + "|A\r",
		head + "|A\r\n" + strings.Repeat("PID|1\r\n", 19):               head + "|A\r" + strings.Repeat("PID|1\r", 19),
		head + "|A\r" + strings.Repeat("PID|1\r", 18) + "PID|1":         head + "|A\r" + strings.Repeat("PID|1\r", 19),
	}
	return list
}

func TestMessageLoose(t *testing.T) {
	for name, c := range rightMessages() {
		check(t, "MessageLoose: "+name, impl.MessageLoose(c.text), messageTold(c.message))
	}
	for text, own := range looseMessages() {
		want := impl.MessageRead(own)
		check(t, named("MessageRead", own), want.Code, impl.OK)
		check(t, named("MessageLoose", text), impl.MessageLoose(text), want)
		check(t, named("MessageRead", text), impl.MessageRead(text), messageFault(impl.ErrSyntax))
	}
	for _, text := range brokenMessages() {
		check(t, named("MessageLoose", text), impl.MessageLoose(text), messageFault(impl.ErrSyntax))
	}
	broken := head + "|" + strings.Repeat("x", 60) + `\`
	check(t, "MessageLoose of a sub of 61", impl.MessageLoose(broken), messageFault(impl.ErrSyntax))
}

// With an escape that stands for itself, or the last 13 lacking, the own text has more bytes than the text.
func TestMessageLooseLimits(t *testing.T) {
	for _, bytes := range []int{impl.MaxBytes - 3, impl.MaxBytes - 2, impl.MaxBytes - 1, impl.MaxBytes} {
		whole := filledText(bytes)
		lone := strings.Replace(whole, "|xx", `|\x`, 1)
		got := impl.MessageLoose(lone)
		if bytes+2 > impl.MaxBytes {
			check(t, fmt.Sprint("MessageLoose of a lone escape, ", bytes), got, messageFault(impl.ErrSyntax))
		} else {
			check(t, fmt.Sprint("MessageLoose of a lone escape, ", bytes), impl.MessageText(got.Message), strings.Replace(whole, "|xx", `|\E\x`, 1))
		}
		check(t, fmt.Sprint("MessageLoose without the last 13, ", bytes), impl.MessageLoose(whole[:bytes-1]), impl.MessageRead(whole))
	}
	whole := filledText(impl.MaxBytes + 1)
	check(t, "MessageLoose of MaxBytes without the last 13", impl.MessageLoose(whole[:impl.MaxBytes]), messageFault(impl.ErrSyntax))
	check(t, "MessageLoose of MaxBytes with a 10", impl.MessageLoose(filledText(impl.MaxBytes-1)+"\n"), messageTold(filledMessage(impl.MaxBytes-1)))
	check(t, "MessageLoose of a byte too many by a 10", impl.MessageLoose(filledText(impl.MaxBytes)+"\n"), messageFault(impl.ErrSize))
}
