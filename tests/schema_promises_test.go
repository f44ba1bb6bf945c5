package tests

import (
	"fmt"
	"math/rand"
	"reflect"
	"slices"
	"strings"
	"testing"

	"loop.example/g00416/impl"
)

func TestPromise11WhatThereIsStays(t *testing.T) {
	there := map[int64]int{}
	for _, seg := range tableSegs() {
		for version := int64(1); version <= 3; version++ {
			if version < 3 && impl.Known(version, seg) && !impl.Known(version+1, seg) {
				t.Errorf("promise 11: %s is not Known in %d", seg, version+1)
			}
			for field := int64(-2); field <= 40; field++ {
				rule := impl.RuleOf(version, seg, field)
				if rule == (impl.Rule{}) {
					continue
				}
				there[version]++
				if next := impl.RuleOf(version+1, seg, field); version < 3 && (next.Type != rule.Type || next != rule) {
					t.Errorf("promise 11: %+v in %d, %+v in the next one", rule, version, next)
				}
				same(t, "a Segment of a Rule is Known", impl.Known(version, seg), true)
			}
		}
	}
	same(t, "how many there are", fmt.Sprint(there), "map[1:21 2:26 3:28]")
}

// checkTime: what a version takes begins with a day, and the next one takes it.
func checkTime(t *testing.T, text string) int {
	t.Helper()
	taken := 0
	for version := int64(1); version <= 3; version++ {
		if !impl.TimeRight(version, text) {
			continue
		}
		taken++
		if !impl.DayRight(text[:8]) || !impl.TimeRight(version, text[:8]) {
			t.Errorf("promise 12: %q of %d begins with no day", text, version)
		}
		if version < 3 && !impl.TimeRight(version+1, text) {
			t.Errorf("promise 12: %q of %d is none of the next one", text, version)
		}
	}
	return taken
}

func TestPromise12TimesStay(t *testing.T) {
	random := rand.New(rand.NewSource(12))
	two := func(most int) string { return fmt.Sprintf("%02d", random.Intn(most)) }
	taken := map[int]int{}
	for range 100000 {
		text := fmt.Sprintf("%04d", 1780+random.Intn(260)) + two(14) + two(33)
		for _, most := range []int{25, 61, 61}[:random.Intn(4)] {
			text += two(most)
		}
		if random.Intn(3) == 0 {
			text += "." + strings.Repeat("7", random.Intn(6))
		}
		if random.Intn(3) == 0 {
			text += string("+-"[random.Intn(2)]) + two(16) + two(61)
		}
		taken[checkTime(t, text)]++
		cut := random.Intn(len(text))
		checkTime(t, text[:cut]+text[cut+1:])
	}
	for versions, least := range []int{1000, 1000, 1000, 1000} {
		if taken[versions] < least {
			t.Errorf("of %d versions: %d times only", versions, taken[versions])
		}
	}
	for _, c := range timeCases() {
		checkTime(t, "20240229"+c.behind)
		checkTime(t, c.behind)
	}
}

func TestPromise13PartsStay(t *testing.T) {
	random := rand.New(rand.NewSource(13))
	fit := map[int64]int{}
	for range 30000 {
		r := nearRep(random)
		for kind := int64(1); kind <= 9; kind++ {
			for version := int64(1); version <= 2; version++ {
				if kind == impl.TyKind || !impl.RepFits(version, kind, r) {
					continue
				}
				fit[kind]++
				if !impl.RepFits(version+1, kind, r) {
					t.Errorf("promise 13: %q fits %s of %d, and not of the next one", r, typeWords[kind], version)
				}
			}
		}
		if impl.RepFits(1, impl.TyKind, r) && impl.RepFits(2, impl.TyKind, r) {
			t.Errorf("a kind of all versions: %q", r)
		}
		same(t, named("a kind stays from 2 on", r), impl.RepFits(2, impl.TyKind, r), impl.RepFits(3, impl.TyKind, r))
	}
	for _, kind := range allTypes() {
		if kind != impl.TyKind && fit[kind] < 200 {
			t.Errorf("%d fit %s", fit[kind], typeWords[kind])
		}
	}
}

// fitText: a text of a Rep that fits that type of that version.
func fitText(random *rand.Rand, version int64, kind int64) string {
	var list []string
	for _, c := range typeCases[kind] {
		if strings.Contains(c.versions, fmt.Sprint(version)) {
			list = append(list, c.text)
		}
	}
	return list[random.Intn(len(list))]
}

// orderedMessage is one that is in order: each Field that Must be, and some of the others.
func orderedMessage(random *rand.Rand) impl.Message {
	version := int64(1 + random.Intn(3))
	names := []string{"NTE", "OBX", "PID", "PV1", "ZZZ", "Z01", "SFT", "PRT"}[:[]int{0, 6, 7, 8}[version]]
	m := impl.Message{Marks: randomMarks(random), Segments: []impl.Segment{segmentOf("MSH")}}
	for range random.Intn(7) {
		m.Segments = append(m.Segments, segmentOf(names[random.Intn(len(names))]))
	}
	for i := range m.Segments {
		m.Segments[i].Fields = orderedFields(random, version, m.Segments[i].Name)
	}
	m.Segments[0].Fields[9] = oneSub([]string{"", "2.3", "2.5.1", "2.7"}[version])
	return m
}

func orderedFields(random *rand.Rand, version int64, seg string) []impl.Field {
	if seg[0] == 'Z' {
		return randomSegment(random, usual, seg, 30).Fields
	}
	first := int64(1)
	if seg == "MSH" {
		first = 3
	}
	fields := make([]impl.Field, 30)
	for i := range fields {
		rule := tableRule(version, seg, int64(i)+first)
		if rule.Seg == "" || !rule.Must && random.Intn(2) == 0 {
			continue
		}
		var texts []string
		for range 1 + random.Intn(5) {
			texts = append(texts, fitText(random, version, rule.Type))
		}
		if !rule.Many {
			texts = texts[:1]
		}
		fields[i] = impl.FieldRead(usual, strings.Join(texts, "~")).Field
	}
	for len(fields) > 0 && len(fields[len(fields)-1].Reps) == 0 {
		fields = fields[:len(fields)-1]
	}
	return fields
}

// disturb puts one thing into a message that may be out of order there.
func disturb(random *rand.Rand, m impl.Message) impl.Message {
	s := &m.Segments[random.Intn(len(m.Segments))]
	switch random.Intn(5) {
	case 0:
		at := random.Intn(len(m.Segments)) + 1
		name := []string{"OBR", "SFT", "PRT", "ZZ1", "PID", "AZZ"}[random.Intn(6)]
		m.Segments = slices.Insert(m.Segments, at, randomSegment(random, usual, name, 3))
	case 1:
		p := first(s.Name, int64(1+random.Intn(32)))
		return put(m, p, randomField(random, usual, 3, 3))
	case 2:
		return put(m, first(s.Name, int64(1+random.Intn(20))), impl.Field{})
	case 3:
		f := impl.FieldRead(usual, fitText(random, int64(1+random.Intn(3)), []int64{1, 2, 3, 4, 5, 6, 7, 8, 9}[random.Intn(9)])).Field
		return put(m, place(s.Name, 1+int64(random.Intn(2)), int64(1+random.Intn(18)), 1, 1, 1), f)
	case 4:
		version := []string{"2.3", "2.5.1", "2.7", "2.4"}[random.Intn(4)]
		return impl.ValuePut(m, first("MSH", 12), version).Message
	}
	return m
}

// put leaves a message as it is, where FieldPut tells a code.
func put(m impl.Message, p impl.Path, f impl.Field) impl.Message {
	if out := impl.FieldPut(m, p, f); out.Code == impl.OK {
		return out.Message
	}
	return m
}

// checkOrder: each Field of a message that is found to be in order is.
func checkOrder(t *testing.T, m impl.Message) {
	t.Helper()
	version := impl.VersionOf(impl.ValueAt(m, first("MSH", 12)))
	for _, s := range m.Segments {
		if s.Name[0] != 'Z' && !impl.Known(version, s.Name) {
			t.Errorf("promise 14: %s is not Known in %d", s.Name, version)
		}
		for field := int64(1); field <= 32; field++ {
			at, f := int(field)-1, impl.Field{}
			if s.Name == "MSH" {
				at -= 2
			}
			if at >= 0 && at < len(s.Fields) {
				f = s.Fields[at]
			}
			if code := impl.CheckField(version, s.Name, field, f); code != impl.OK {
				t.Errorf("promise 14: CheckField(%d, %s, %d, %q) is %d in %q", version, s.Name, field, f, code, m)
			}
		}
	}
}

func TestPromise14EachFieldIsInOrder(t *testing.T) {
	random := rand.New(rand.NewSource(14))
	found := map[string]int{}
	for range 3000 {
		m := orderedMessage(random)
		checkFinding(t, m, impl.Finding{})
		checkOrder(t, m)
		for range random.Intn(4) {
			m = disturb(random, m)
		}
		got := findingByTable(m)
		checkFinding(t, m, got)
		if got.Code == impl.OK {
			same(t, "beside OK", got.Path, "")
			checkOrder(t, m)
			found["in order"]++
		} else {
			checkNamed(t, m, got)
			found[got.Path[len(got.Path)-1:]]++
		}
	}
	if found["in order"] < 300 || found["]"] < 100 || len(found) != 12 {
		t.Errorf("what was found: %v", found)
	}
}

func checkFinding(t *testing.T, m impl.Message, want impl.Finding) {
	t.Helper()
	if got := impl.CheckMessage(m); got != want {
		t.Errorf("CheckMessage: got %+v, want %+v of %q", got, want, m)
	}
}

// checkNamed: what a finding names is out of order itself.
func checkNamed(t *testing.T, m impl.Message, found impl.Finding) {
	t.Helper()
	version := impl.VersionOf(impl.ValueAt(m, first("MSH", 12)))
	if version == 0 {
		same(t, "of no version", found, impl.Finding{Path: "MSH-12", Code: impl.ErrSchema})
		return
	}
	if strings.HasSuffix(found.Path, "]") {
		same(t, named("Known", found.Path), impl.Known(version, found.Path[:3]), false)
		return
	}
	p := readPath(t, found.Path)
	same(t, named("the Field at", found.Path), impl.CheckField(version, p.Seg, p.Field, impl.FieldAt(m, p)), found.Code)
}

// schemaCalls: what each call answers for a message, a Segment's Name, texts and a Field.
func schemaCalls(m impl.Message, seg string, text string, f impl.Field) map[string]any {
	return map[string]any{
		"Rules":        impl.Rules(),
		"VersionOf":    impl.VersionOf(text),
		"VersionText":  impl.VersionText(2),
		"RuleOf":       impl.RuleOf(3, seg, 3),
		"Known":        impl.Known(3, seg),
		"NumberRight":  impl.NumberRight(text),
		"DayRight":     impl.DayRight(text),
		"TimeRight":    impl.TimeRight(3, text),
		"RepFits":      impl.RepFits(2, impl.TyPerson, f.Reps[0]),
		"CheckField":   impl.CheckField(2, seg, 3, f),
		"CheckMessage": impl.CheckMessage(m),
	}
}

// spacious is a message whose first fault is in a Segment's list with room behind its end.
func spacious(path string) impl.Message {
	m := deepMessage()
	m.Segments[0] = impl.MessageRead(head251 + "\r").Message.Segments[0]
	switch path {
	case "PID[1]":
		m.Segments[1].Name = strings.Clone("QID")
	case "MSH-12":
		m.Segments[0].Fields[9] = oneSub("2.2")
	}
	return m
}

func TestSchemaApart(t *testing.T) {
	for _, path := range []string{"PID-2", "PID[1]", "MSH-12"} {
		m := spacious(path)
		seg, text, f := strings.Clone("PID"), strings.Clone("20240229123000.1234+0100"), deepMessage().Segments[1].Fields[1]
		given := []any{m, seg, text, f}
		before := shape(given) + spareOf(m)
		for name, answer := range schemaCalls(m, seg, text, f) {
			checkMemory(t, name+" "+path, answer, given...)
		}
		same(t, "what was given", shape(given)+spareOf(m), before)
		same(t, "the fault", impl.CheckMessage(m), impl.Finding{Path: strings.Replace(path, "PID[", "QID[", 1), Code: impl.ErrSchema})
	}
	checkMemory(t, "Rules with Rules", impl.Rules()[:0], impl.Rules()[:0])
}

// Nothing is kept from call to call: the same is told again, whatever was asked between.
func TestSchemaKeepsNothing(t *testing.T) {
	m, f := spacious("PID-2"), oneSub("A")
	calls := schemaCalls(m, "PID", "20240229", f)
	for version := int64(-1); version <= 5; version++ {
		impl.RuleOf(version, "PRT", 2)
		impl.Known(version, "PRT")
		impl.CheckField(version, "PID", 8, f)
	}
	impl.CheckMessage(impl.Message{})
	clear(impl.Rules())
	if again := schemaCalls(m, "PID", "20240229", f); !reflect.DeepEqual(again, calls) {
		t.Errorf("told again: %q, was %q", again, calls)
	}
}
