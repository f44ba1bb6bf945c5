package tests

import (
	"math/rand"
	"reflect"
	"regexp"
	"strings"
	"testing"
	"unsafe"

	"loop.example/g00416/impl"
)

// randomPlain has marks of any kind, and letters of the escaped ones, more often than other bytes.
func randomPlain(random *rand.Rand, marks string, bytes int) string {
	raw := make([]byte, bytes)
	for i := range raw {
		switch random.Intn(4) {
		case 0:
			raw[i] = marks[random.Intn(len(marks))]
		case 1:
			raw[i] = "FSRET"[random.Intn(5)]
		default:
			raw[i] = byte(32 + random.Intn(95))
		}
	}
	return string(raw)
}

func randomMarks(random *rand.Rand) string {
	all := []byte("!\"#$%&'()*+,/:;<=>?@[\\]^_`{|}~")
	random.Shuffle(len(all), func(i int, j int) { all[i], all[j] = all[j], all[i] })
	return string(all[:5])
}

// randomSize is 0 more often than each other number.
func randomSize(random *rand.Rand, most int) int {
	if random.Intn(3) == 0 {
		return 0
	}
	return random.Intn(most + 1)
}

func randomComp(random *rand.Rand, marks string, bytes int) impl.Comp {
	var c impl.Comp
	for range randomSize(random, 5) {
		c.Subs = append(c.Subs, randomPlain(random, marks, randomSize(random, bytes)))
	}
	if n := len(c.Subs); n > 0 && c.Subs[n-1] == "" {
		c.Subs[n-1] = "&"
	}
	return c
}

func randomRep(random *rand.Rand, marks string, comps int, bytes int) impl.Rep {
	var r impl.Rep
	for range randomSize(random, comps) {
		r.Comps = append(r.Comps, randomComp(random, marks, bytes))
	}
	if n := len(r.Comps); n > 0 && len(r.Comps[n-1].Subs) == 0 {
		r.Comps[n-1] = compOf("", "last")
	}
	return r
}

func randomField(random *rand.Rand, marks string, comps int, bytes int) impl.Field {
	var f impl.Field
	for range randomSize(random, 5) {
		f.Reps = append(f.Reps, randomRep(random, marks, comps, bytes))
	}
	if n := len(f.Reps); n > 0 && len(f.Reps[n-1].Comps) == 0 {
		f.Reps[n-1] = repOf(impl.Comp{}, compOf("last"))
	}
	return f
}

func randomSegment(random *rand.Rand, marks string, name string, fields int) impl.Segment {
	s := segmentOf(name)
	for range randomSize(random, fields) {
		s.Fields = append(s.Fields, randomField(random, marks, 3, 4))
	}
	if n := len(s.Fields); n > 0 && len(s.Fields[n-1].Reps) == 0 || n == 0 && name == "MSH" {
		s.Fields = append(s.Fields[:max(n-1, 0)], oneSub("last"))
	}
	return s
}

func randomMessage(random *rand.Rand) impl.Message {
	marks := randomMarks(random)
	m := impl.Message{Marks: marks, Segments: []impl.Segment{randomSegment(random, marks, "MSH", 4)}}
	for range random.Intn(20) {
		name := []string{"PID", "PV1", "OBX", "Z01", "A00", "ZZZ"}[random.Intn(6)]
		m.Segments = append(m.Segments, randomSegment(random, marks, name, 3))
	}
	return m
}

func TestPromise6PlainComesBack(t *testing.T) {
	random := rand.New(rand.NewSource(6))
	for range 3000 {
		marks := randomMarks(random)
		text := randomPlain(random, marks, random.Intn(401))
		escaped := impl.EscapeOf(marks, text)
		if len(escaped) < len(text) || strings.ContainsAny(strings.ReplaceAll(escaped, marks[3:4], ""), marks) {
			t.Fatalf("EscapeOf(%q, %q) = %q", marks, text, escaped)
		}
		check(t, named("promise 6", marks, text), impl.PlainOf(marks, escaped), impl.TextOut{Text: text})
	}
}

// eachText: all texts of these bytes, up to so many.
func eachText(alphabet string, bytes int, call func(text string)) {
	list := []string{""}
	for range bytes + 1 {
		var longer []string
		for _, text := range list {
			call(text)
			for _, c := range alphabet {
				longer = append(longer, text+string(c))
			}
		}
		list = longer
	}
}

// Each text is the EscapeOf of one text at most: what PlainOf tells of it, or none, by a pattern of the chapter's words.
func TestPromise6EachTextOfFewBytes(t *testing.T) {
	pattern := regexp.MustCompile(`^([^|^~\\&]|\\[FSRET]\\)*$`)
	eachText(`\FEa|&`, 6, func(text string) {
		got := impl.PlainOf(usual, text)
		if !pattern.MatchString(text) {
			check(t, named("PlainOf", text), got, textFault(impl.ErrSyntax))
		} else if got.Code != impl.OK || impl.EscapeOf(usual, got.Text) != text || got.At != 0 {
			t.Errorf("PlainOf(%q) = %+v", text, got)
		}
	})
}

func TestPromise7FieldsComeBack(t *testing.T) {
	random := rand.New(rand.NewSource(7))
	for range 3000 {
		marks := randomMarks(random)
		f := randomField(random, marks, 10, 60)
		text := impl.FieldText(marks, f)
		if !impl.FieldRight(f) {
			t.Fatalf("not right: %q", f)
		}
		got := impl.FieldRead(marks, text)
		if len(text) > impl.MaxBytes {
			check(t, "promise 7 of too much", got, fieldFault(impl.ErrSize))
			continue
		}
		check(t, named("promise 7", marks, text), got, fieldTold(f))
		check(t, named("promise 7, the same", marks, text), impl.FieldSame(got.Field, f), true)
	}
}

// fieldPattern is a right Field's text by the usual marks, but for the limits.
func fieldPattern() string {
	full := `(?:[^|^~\\&]|\\[FSRET]\\)+`
	comp := `(?:(?:(?:` + full + `)?&)*` + full + `)`
	rep := `(?:(?:` + comp + `?\^)*` + comp + `)`
	return `(?:(?:` + rep + `?~)*` + rep + `)?`
}

func TestPromise7EachFieldOfFewBytes(t *testing.T) {
	pattern := regexp.MustCompile(`^` + fieldPattern() + `$`)
	eachText(`a~^&|`, 6, func(text string) {
		got := impl.FieldRead(usual, text)
		if !pattern.MatchString(text) || strings.HasPrefix(text, "~~~~~") || strings.HasPrefix(text, "&&&&&") {
			check(t, named("FieldRead", text), got, fieldFault(impl.ErrSyntax))
		} else if got.Code != impl.OK || impl.FieldText(usual, got.Field) != text || !impl.FieldRight(got.Field) {
			t.Errorf("FieldRead(%q) = %+v", text, got)
		}
	})
}

func TestPromise7SegmentsComeBack(t *testing.T) {
	random := rand.New(rand.NewSource(8))
	for range 2000 {
		marks := randomMarks(random)
		s := randomSegment(random, marks, []string{"MSH", "PID", "Z09"}[random.Intn(3)], 30)
		text := impl.SegmentText(marks, s)
		if !impl.SegmentRight(s) || text == "" {
			t.Fatalf("not right: %q", s)
		}
		if len(text) > impl.MaxBytes {
			check(t, "promise 7 of too much", impl.SegmentRead(marks, text), segmentFault(impl.ErrSize))
			continue
		}
		check(t, named("promise 7", marks, text), impl.SegmentRead(marks, text), segmentTold(s))
	}
}

func TestPromise7EachSegmentOfFewBytes(t *testing.T) {
	pattern := regexp.MustCompile(`^PID(?:\|` + fieldPattern() + `)*$`)
	eachText(`a~^|`, 6, func(text string) {
		text = "PID" + text
		got := impl.SegmentRead(usual, text)
		if !pattern.MatchString(text) || strings.HasSuffix(text, "|") || strings.Contains(text, "~~~~~") {
			check(t, named("SegmentRead", text), got, segmentFault(impl.ErrSyntax))
		} else if got.Code != impl.OK || impl.SegmentText(usual, got.Segment) != text || !impl.SegmentRight(got.Segment) {
			t.Errorf("SegmentRead(%q) = %+v", text, got)
		}
	})
}

func TestPromise8MessagesComeBack(t *testing.T) {
	random := rand.New(rand.NewSource(9))
	back := 0
	for range 2000 {
		m := randomMessage(random)
		if !impl.MessageRight(m) {
			t.Fatalf("not right: %q", m)
		}
		text := impl.MessageText(m)
		if text == "" {
			continue
		}
		back++
		check(t, named("promise 8", text), impl.MessageRead(text), messageTold(m))
		check(t, named("promise 8, loosely", text), impl.MessageLoose(text), messageTold(m))
	}
	if back < 1000 {
		t.Errorf("only %d messages have a text", back)
	}
}

var (
	looseLines  = regexp.MustCompile(`^(\|[^\r]*)?\r([A-Z0-9]{3}(\|[^\r]*)?\r)*$`)
	anyEscape   = regexp.MustCompile(`\\[FSRET]\\|\\`)
	emptyAtEnds = []*regexp.Regexp{
		regexp.MustCompile(`&+([\^~|\r])`), regexp.MustCompile(`\^+([~|\r])`), regexp.MustCompile(`~+([|\r])`), regexp.MustCompile(`\|+(\r)`),
	}
)

// tidied is the text that a loose one counts as, worked out on the text alone; the empty one, if its lines can't be.
func tidied(text string) string {
	body, _ := strings.CutPrefix(text, head)
	body = strings.ReplaceAll(body, "\r\n", "\r")
	if !strings.HasSuffix(body, "\r") {
		body += "\r"
	}
	// What would be left out of a line that begins with no Name is no part of a Field.
	if !looseLines.MatchString(body) {
		return ""
	}
	body = anyEscape.ReplaceAllStringFunc(body, func(found string) string {
		if found == `\` {
			return `\E\`
		}
		return found
	})
	for _, cut := range emptyAtEnds {
		body = cut.ReplaceAllString(body, "$1")
	}
	return head + body
}

func checkTidied(t *testing.T, text string) {
	t.Helper()
	got := impl.MessageLoose(text)
	check(t, named("promise 8, loosely", text), got, impl.MessageRead(tidied(text)))
	if got.Code != impl.OK {
		return
	}
	own := impl.MessageText(got.Message)
	if !impl.MessageRight(got.Message) || own == "" {
		t.Errorf("MessageLoose(%q) tells what is not right: %q", text, got.Message)
	}
	check(t, named("promise 8, own text read", text), impl.MessageRead(own), got)
	check(t, named("promise 8, own text read loosely", text), impl.MessageLoose(own), got)
}

func TestPromise8EachLooseTextOfFewBytes(t *testing.T) {
	eachText("a~^&|\r\n", 5, func(text string) {
		checkTidied(t, head+"|A\rPID|"+text)
		checkTidied(t, head+text)
	})
}

func TestPromise8LooseEscapes(t *testing.T) {
	eachText(`\EFa|`, 6, func(text string) {
		checkTidied(t, head+"|"+text+"\r")
	})
}

func TestPromise8LooseTexts(t *testing.T) {
	random := rand.New(rand.NewSource(10))
	pieces := []string{"|", "|", "|A", "^", "~", "&", "ab", "x", `\F\`, `\T\`, `\X`, "\rPID|", "\rPV1|", "\r\nZ01|"}
	rare := []string{"\r", "\r\n", "\n", "\rPID", "\rMSH", "\t"}
	good := 0
	for range 10000 {
		text := head + "|"
		for range random.Intn(40) {
			text += pieces[random.Intn(len(pieces))]
		}
		if random.Intn(2) == 0 {
			text += rare[random.Intn(len(rare))]
		}
		checkTidied(t, text)
		if impl.MessageLoose(text).Code == impl.OK {
			good++
		}
	}
	if good < 3000 {
		t.Errorf("only %d texts are read", good)
	}
}

// Whatever is given, a call answers, and what is told with another code is nothing.
func TestWireTakesAnyBytes(t *testing.T) {
	random := rand.New(rand.NewSource(11))
	for range 5000 {
		raw := make([]byte, random.Intn(40))
		for i := range raw {
			raw[i] = byte(random.Intn(256))
		}
		text := string(raw)
		marks := text[:min(len(text), 5)]
		if got := impl.MessageLoose(head + text); got.Code != impl.OK {
			check(t, named("MessageLoose", text), got, messageFault(impl.ErrSyntax))
		}
		check(t, named("MessageRead", text), impl.MessageRead(text), messageFault(impl.ErrSyntax))
		if impl.PlainOf(usual, text).Code == impl.OK {
			check(t, named("EscapeOf PlainOf", text), impl.EscapeOf(usual, impl.PlainOf(usual, text).Text), text)
		}
		impl.EscapeOf(marks, text)
		impl.FieldRead(marks, text)
		impl.SegmentRead(marks, text)
	}
}

// span is a piece of memory that a list, or a text, stands in.
type span struct {
	from, to uintptr
	list     bool
}

func (s span) meets(o span) bool { return s.from < o.to && o.from < s.to }

// spansOf: the memory of all that stands in a value; of lists up to what they have room for.
func spansOf(v reflect.Value) []span {
	var all []span
	switch v.Kind() {
	case reflect.String:
		from := uintptr(unsafe.Pointer(unsafe.StringData(v.String())))
		all = append(all, span{from, from + uintptr(v.Len()), false})
	case reflect.Slice:
		from := v.Pointer()
		all = append(all, span{from, from + uintptr(v.Cap())*v.Type().Elem().Size(), true})
		for i := range v.Len() {
			all = append(all, spansOf(v.Index(i))...)
		}
	case reflect.Struct:
		for i := range v.NumField() {
			all = append(all, spansOf(v.Field(i))...)
		}
	}
	return all
}

func memoryOf(values ...any) []span {
	var all []span
	for _, x := range values {
		all = append(all, spansOf(reflect.ValueOf(x))...)
	}
	return all
}

// checkMemory: an answer shares no memory with what was given, and no two lists of it share any.
func checkMemory(t *testing.T, what string, answer any, given ...any) {
	t.Helper()
	own := memoryOf(answer)
	for i, a := range own {
		for _, b := range memoryOf(given...) {
			if a.meets(b) {
				t.Errorf("%s shares memory with an argument", what)
			}
		}
		for _, b := range own[:i] {
			if (a.list || b.list) && a.meets(b) {
				t.Errorf("%s: two lists of it share memory", what)
			}
		}
	}
}

// deepMessage has lists, and texts of more than a byte, at each depth; empty ones and lists with spare room among them.
func deepMessage() impl.Message {
	word := func(text string) string { return strings.Clone(text) }
	comp := impl.Comp{Subs: append(make([]string, 0, 4), word("first|"), "", word("third"))}
	rep := impl.Rep{Comps: append(make([]impl.Comp, 0, 5), comp, impl.Comp{}, compOf(word("other"), word("more")))}
	f := impl.Field{Reps: append(make([]impl.Rep, 0, 7), rep, impl.Rep{Comps: []impl.Comp{}}, repOf(compOf(word("single"))))}
	pid := impl.Segment{Name: word("PID"), Fields: append(make([]impl.Field, 0, 9), impl.Field{}, f, oneSub(word("plain")))}
	msh := impl.Segment{Name: word("MSH"), Fields: []impl.Field{oneSub(word("sender")), {}, f}}
	return impl.Message{Marks: word(usual), Segments: append(make([]impl.Segment, 0, 5), msh, pid, segmentOf(word("ZZZ")))}
}

// wireCalls: what each call answers for a message, its first Field of parts, marks and texts of it.
func wireCalls(m impl.Message, plain string, fieldText string, segmentText string, text string, loose string) map[string]any {
	s := m.Segments[1]
	f := s.Fields[1]
	return map[string]any{
		"MarksRight":       impl.MarksRight(m.Marks),
		"EscapeOf":         impl.EscapeOf(m.Marks, plain),
		"PlainOf":          impl.PlainOf(m.Marks, plain),
		"PlainOf, escaped": impl.PlainOf(m.Marks, fieldText[:len(`first\F\`)]),
		"FieldRight":       impl.FieldRight(f),
		"FieldText":        impl.FieldText(m.Marks, f),
		"FieldText, plain": impl.FieldText(m.Marks, s.Fields[2]),
		"FieldRead":        impl.FieldRead(m.Marks, fieldText),
		"FieldRead, plain": impl.FieldRead(m.Marks, plain),
		"FieldSame":        impl.FieldSame(f, f),
		"SegmentRight":     impl.SegmentRight(s),
		"SegmentText":      impl.SegmentText(m.Marks, s),
		"SegmentText, ZZZ": impl.SegmentText(m.Marks, m.Segments[2]),
		"SegmentRead":      impl.SegmentRead(m.Marks, segmentText),
		"SegmentRead, ZZZ": impl.SegmentRead(m.Marks, m.Segments[2].Name),
		"MessageRight":     impl.MessageRight(m),
		"MessageText":      impl.MessageText(m),
		"MessageRead":      impl.MessageRead(text),
		"MessageLoose":     impl.MessageLoose(loose),
	}
}

func TestWireApart(t *testing.T) {
	m := deepMessage()
	s := m.Segments[1]
	plain, fieldText := strings.Clone("plain text"), impl.FieldText(m.Marks, s.Fields[1])
	segmentText, text := impl.SegmentText(m.Marks, s), impl.MessageText(m)
	loose := strings.ReplaceAll(text, "\r", "|^|\r\n") + "ZZZ|a~|b&|~|"
	given := []any{m, plain, fieldText, segmentText, text, loose}
	before := shape(given)
	spare := shape(m.Segments[:cap(m.Segments)]) + shape(s.Fields[:cap(s.Fields)]) + shape(s.Fields[1].Reps[:cap(s.Fields[1].Reps)])
	calls := wireCalls(m, plain, fieldText, segmentText, text, loose)
	for name, answer := range calls {
		if v := reflect.ValueOf(answer); v.Kind() == reflect.Struct && v.FieldByName("Code").Int() != impl.OK {
			t.Errorf("%s tells %q", name, answer)
		}
		checkMemory(t, name, answer, given...)
		for other, b := range calls {
			if name != other {
				checkMemory(t, name+" with "+other, answer, b)
			}
		}
	}
	check(t, "what was given", shape(given), before)
	check(t, "what stands behind the lists", shape(m.Segments[:cap(m.Segments)])+shape(s.Fields[:cap(s.Fields)])+shape(s.Fields[1].Reps[:cap(s.Fields[1].Reps)]), spare)
}

func TestWireListsApart(t *testing.T) {
	text := impl.MessageText(deepMessage())
	loose := text + "PID|a&b&&^c^^~d~~|e|||"
	checkMemory(t, "MessageRead", impl.MessageRead(text), text)
	checkMemory(t, "MessageLoose", impl.MessageLoose(loose), loose)
	for name, c := range rightFields() {
		checkMemory(t, "FieldRead: "+name, impl.FieldRead(usual, c.text), c.text)
	}
	for name, c := range rightSegments() {
		checkMemory(t, "SegmentRead: "+name, impl.SegmentRead(usual, c.text), c.text)
	}
	for name, c := range rightMessages() {
		checkMemory(t, "MessageRead: "+name, impl.MessageRead(c.text), c.text)
	}
	for text := range looseMessages() {
		checkMemory(t, named("MessageLoose", text), impl.MessageLoose(text), text)
	}
}
