package tests

import (
	"maps"
	"math/rand"
	"reflect"
	"strings"
	"testing"

	"loop.example/g00416/impl"
)

// subPlace is a place of a Segment at which a Sub may stand, counted from 0.
type subPlace struct {
	field, rep, comp, sub int
}

// valuesOf: what stands in a Segment and is not empty. No two right Segments of a Name have the same of these.
func valuesOf(s impl.Segment) map[subPlace]string {
	values := map[subPlace]string{}
	for i, f := range s.Fields {
		for j, r := range f.Reps {
			for k, c := range r.Comps {
				for l, text := range c.Subs {
					if text != "" {
						values[subPlace{i, j, k, l}] = text
					}
				}
			}
		}
	}
	return values
}

// placeIn: where a Path's Sub stands in its Segment.
func placeIn(p impl.Path) subPlace {
	at := subPlace{int(p.Field) - 1, int(p.Rep) - 1, int(p.Comp) - 1, int(p.Sub) - 1}
	if p.Seg == "MSH" {
		at.field -= 2
	}
	return at
}

// fits: may a right Segment of that Name have these values?
func fits(name string, values map[subPlace]string) bool {
	for at := range values {
		if at.rep >= 5 || at.comp >= 10 || at.sub >= 5 {
			return false
		}
	}
	return name != "MSH" || len(values) > 0
}

// numberOf: the number of a Path's Segment, counted one by one; -1, if there is none.
func numberOf(m impl.Message, p impl.Path) int {
	nth := int64(0)
	for i, s := range m.Segments {
		if s.Name == p.Seg {
			nth++
			if nth == p.Nth {
				return i
			}
		}
	}
	return -1
}

// randomPath: of a message's Segments, as a rule; near its parts, and often at their edges.
func randomPath(random *rand.Rand, m impl.Message) impl.Path {
	few := func(most int) int64 {
		if random.Intn(2) == 0 {
			return 1
		}
		return int64(1 + random.Intn(most))
	}
	p := place(m.Segments[random.Intn(len(m.Segments))].Name, few(4), few(6), few(6), few(11), few(6))
	if random.Intn(20) == 0 {
		p.Seg = "PV9"
	}
	if p.Seg == "MSH" {
		p.Field += 2
	}
	return p
}

// checkOthers: but for the Segment at that number all is as it was, and so are that one's other Fields.
func checkOthers(t *testing.T, what string, before impl.Message, after impl.Message, number int, field int) {
	t.Helper()
	if !impl.MessageRight(after) || after.Marks != before.Marks || len(after.Segments) != len(before.Segments) {
		t.Fatalf("%s: %.300q from %.300q", what, after, before)
	}
	for i, s := range before.Segments {
		same(t, what+": the Name", after.Segments[i].Name, s.Name)
		if i != number {
			check(t, what+": another Segment", after.Segments[i], s)
		}
	}
	old, fresh := valuesOf(before.Segments[number]), valuesOf(after.Segments[number])
	for _, values := range []map[subPlace]string{old, fresh} {
		maps.DeleteFunc(values, func(at subPlace, _ string) bool { return at.field == field })
	}
	if !maps.Equal(old, fresh) {
		t.Errorf("%s: another Field is another one: %v, was %v", what, fresh, old)
	}
}

func TestPromise9PlacesComeBack(t *testing.T) {
	edges := []int64{1, 2, 9, 10, 11, 19, 20}
	for _, seg := range []string{"PID", "MSH", "A00", "Z9Z"} {
		for _, nth := range edges {
			for field := int64(1); field <= 32; field++ {
				for _, rep := range edges {
					for _, comp := range edges {
						for _, sub := range edges {
							checkComesBack(t, place(seg, nth, field, rep, comp, sub))
						}
					}
				}
			}
		}
	}
}

func checkComesBack(t *testing.T, p impl.Path) {
	t.Helper()
	right := p.Seg == "MSH" && p.Field >= 3 || p.Seg != "MSH" && p.Field <= 30
	text := impl.PathText(p)
	if impl.PathRight(p) != right || (text != "") != right {
		t.Fatalf("%+v is right: %v, its text is %q", p, !right, text)
	}
	if right && (impl.PathRead(text) != pathTold(p) || pathByPattern(text) != pathTold(p)) {
		t.Fatalf("promise 9: %+v from %q from %+v", impl.PathRead(text), text, p)
	}
}

func TestPromise9AnyPlace(t *testing.T) {
	random := rand.New(rand.NewSource(12))
	number := func(most int) int64 { return int64(random.Intn(most+2)) - int64(random.Intn(20)/19) }
	right := 0
	for range 200000 {
		p := place([]string{"PID", "MSH", "OBX", "Z01", "pid", "PI"}[random.Intn(6)], number(20), number(32), number(20), number(20), number(20))
		text := impl.PathText(p)
		if !impl.PathRight(p) {
			same(t, named("PathText", p), text, "")
			continue
		}
		right++
		same(t, named("promise 9", p), impl.PathRead(text), pathTold(p))
	}
	if right < 20000 {
		t.Errorf("only %d places are right", right)
	}
}

// Whatever is given, PathRead answers: a place whose text this is, or a code and nothing.
func TestPathReadTakesAnyBytes(t *testing.T) {
	random := rand.New(rand.NewSource(13))
	pieces := []string{"PID", "MSH", "[", "]", "-", "(", ")", ".", "1", "2", "0", "20", "21", "30", "31", "9", " ", "\x00", "é", "\xff", "+"}
	for range 50000 {
		text := ""
		if random.Intn(2) == 0 {
			text = "PID-"
		}
		for range random.Intn(12) {
			text += pieces[random.Intn(len(pieces))]
		}
		same(t, named("PathRead", text), impl.PathRead(text), pathByPattern(text))
	}
}

func TestPromise10ValuesStand(t *testing.T) {
	random := rand.New(rand.NewSource(14))
	codes := map[int64]int{}
	for range 20000 {
		m := randomMessage(random)
		p := randomPath(random, m)
		value := randomPlain(random, m.Marks, randomSize(random, 5))
		got := impl.ValuePut(m, p, value)
		codes[got.Code]++
		what := named("promise 10", impl.PathText(p), value)
		number := numberOf(m, p)
		if number < 0 {
			checkPutFault(t, what, got, impl.ErrNone)
			continue
		}
		want := valuesOf(m.Segments[number])
		want[placeIn(p)] = value
		if value == "" {
			delete(want, placeIn(p))
		}
		if !fits(p.Seg, want) {
			checkPutFault(t, what, got, impl.ErrRange)
			continue
		}
		same(t, what, got.Code, impl.OK)
		same(t, what, impl.ValueAt(got.Message, p), value)
		checkOthers(t, what, m, got.Message, number, placeIn(p).field)
		if fresh := valuesOf(got.Message.Segments[number]); !maps.Equal(fresh, want) {
			t.Errorf("%s: got %v, want %v", what, fresh, want)
		}
	}
	if codes[impl.OK] < 5000 || codes[impl.ErrNone] < 500 || codes[impl.ErrRange] < 500 || len(codes) != 3 {
		t.Errorf("codes: %v", codes)
	}
}

func TestPromise10FieldsStand(t *testing.T) {
	random := rand.New(rand.NewSource(15))
	codes := map[int64]int{}
	for range 20000 {
		m := randomMessage(random)
		p := randomPath(random, m)
		f := randomField(random, m.Marks, 3, 4)
		got := impl.FieldPut(m, p, f)
		codes[got.Code]++
		what := named("promise 10", impl.PathText(p), f)
		number := numberOf(m, p)
		if number < 0 {
			checkPutFault(t, what, got, impl.ErrNone)
			continue
		}
		others := valuesOf(m.Segments[number])
		maps.DeleteFunc(others, func(at subPlace, _ string) bool { return at.field == placeIn(p).field })
		if p.Seg == "MSH" && len(f.Reps) == 0 && len(others) == 0 {
			checkPutFault(t, what, got, impl.ErrRange)
			continue
		}
		same(t, what, got.Code, impl.OK)
		check(t, what, impl.FieldAt(got.Message, p), f)
		checkOthers(t, what, m, got.Message, number, placeIn(p).field)
	}
	if codes[impl.OK] < 5000 || codes[impl.ErrNone] < 500 || codes[impl.ErrRange] < 5 || len(codes) != 3 {
		t.Errorf("codes: %v", codes)
	}
}

// Each place of a message is looked at as it stands in it, by its number and by its text.
func TestLooksSeeEachPlace(t *testing.T) {
	random := rand.New(rand.NewSource(16))
	for range 5000 {
		m := randomMessage(random)
		p := randomPath(random, m)
		what := named("looks", impl.PathText(p), m)
		number := numberOf(m, p)
		same(t, what, impl.SegmentAt(m, p.Seg, p.Nth), int64(number))
		if number < 0 {
			check(t, what, impl.FieldAt(m, p), impl.Field{})
			same(t, what, impl.ValueAt(m, p), "")
			continue
		}
		s := m.Segments[number]
		same(t, what, impl.ValueAt(m, p), valuesOf(s)[placeIn(p)])
		want := impl.Field{}
		if at := placeIn(p).field; at < len(s.Fields) {
			want = s.Fields[at]
		}
		check(t, what, impl.FieldAt(m, p), want)
	}
}

// spareOf: what stands in a message's lists, also behind their ends.
func spareOf(m impl.Message) string {
	text := ""
	for _, s := range m.Segments[:cap(m.Segments)] {
		text += shape(s)
		for _, f := range s.Fields[:cap(s.Fields)] {
			text += shape(f)
			for _, r := range f.Reps[:cap(f.Reps)] {
				text += shape(r)
				for _, c := range r.Comps[:cap(r.Comps)] {
					text += shape(c.Subs[:cap(c.Subs)])
				}
			}
		}
	}
	return text
}

// pathCalls: what each call answers for a message and a place of it.
func pathCalls(m impl.Message, p impl.Path, text string, value string, f impl.Field) map[string]any {
	return map[string]any{
		"PathRight":         impl.PathRight(p),
		"PathText":          impl.PathText(p),
		"PathRead":          impl.PathRead(text),
		"SegmentAt":         impl.SegmentAt(m, p.Seg, p.Nth),
		"FieldAt":           impl.FieldAt(m, p),
		"ValueAt":           impl.ValueAt(m, p),
		"ValuePut":          impl.ValuePut(m, p, value),
		"ValuePut, nothing": impl.ValuePut(m, p, ""),
		"FieldPut":          impl.FieldPut(m, p, f),
		"FieldPut, nothing": impl.FieldPut(m, p, impl.Field{}),
	}
}

func TestPathApart(t *testing.T) {
	for _, spelt := range []string{
		"PID-2", "PID-2.1.3", "PID-2.3", "PID-2.3.2", "PID-2(2)", "PID-2(3)", "PID-2(3).2", "PID-2(4)", "PID-2(5).10.5", "PID-2.4.4", "PID-2.1.5", "PID-1",
		"PID-3", "PID-4", "PID-9", "MSH-3", "MSH-4", "MSH-5", "MSH-9.3", "ZZZ-1", "ZZZ-30(2).2", "PID-2(6)", "PID-2.11.6", "PV1-1", "PID[2]-1",
	} {
		m := deepMessage()
		text, value, f := strings.Clone(spelt), strings.Clone("a value"), deepMessage().Segments[1].Fields[1]
		p := readPath(t, text)
		p.Seg = strings.Clone(p.Seg)
		given := []any{m, p, text, value, f}
		before := shape(given) + spareOf(m)
		calls := pathCalls(m, p, text, value, f)
		for name, answer := range calls {
			checkMemory(t, name+" "+spelt, answer, given...)
			for other, b := range calls {
				if name != other {
					checkMemory(t, name+" with "+other+" "+spelt, answer, b)
				}
			}
		}
		same(t, "what was given, "+spelt, shape(given)+spareOf(m), before)
	}
}

// Lists of what was handed in may share memory with each other: the answer's don't.
func TestPathListsApart(t *testing.T) {
	f := deepMessage().Segments[1].Fields[1]
	shared := segmentOf("PID", f, f, impl.Field{}, f)
	m := headed(shared, shared, segmentOf("OBX", f))
	m.Segments[0].Fields = shared.Fields
	before := shape(m)
	for _, text := range []string{"PID-1", "PID[2]-2(2).2.2", "PID-4(3)", "OBX-1.3.2", "OBX-5", "MSH-4(4)", "MSH-6"} {
		p := readPath(t, text)
		for name, answer := range pathCalls(m, p, text, "a value", f) {
			checkMemory(t, name+" "+text, answer, m, f)
			if out, ok := answer.(impl.MessageOut); ok && (out.Code != impl.OK || !impl.MessageRight(out.Message)) {
				t.Errorf("%s %s: %+v", name, text, out)
			}
		}
		put := impl.ValuePut(m, p, "other").Message
		same(t, "ValueAt "+text, impl.ValueAt(put, p), "other")
		checkOthers(t, "ValuePut "+text, m, put, numberOf(m, p), placeIn(p).field)
	}
	same(t, "what was given", shape(m), before)
}

// Nothing is kept from call to call: the same is told again, whatever was asked between.
func TestPathKeepsNothing(t *testing.T) {
	m, p, f := deepMessage(), place("PID", 1, 2, 3, 1, 1), oneSub("x")
	calls := pathCalls(m, p, "PID-2(3)", "v", f)
	impl.ValuePut(m, first("MSH", 3), "other")
	impl.SegmentAt(m, "PID", 9)
	impl.FieldPut(m, first("PID", 2), impl.Field{})
	if again := pathCalls(m, p, "PID-2(3)", "v", f); !reflect.DeepEqual(again, calls) {
		t.Errorf("told again: %q, was %q", again, calls)
	}
}
