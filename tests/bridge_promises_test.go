package tests

import (
	"fmt"
	"math/rand"
	"reflect"
	"slices"
	"strings"
	"testing"

	"loop.example/g00416/impl"
)

func versionIn(m impl.Message) int {
	return slices.Index(versionTexts[:], impl.ValueAt(m, first("MSH", 12)))
}

// bridgeMessage is one that is in order: made for its version, or for one ahead, so that a good many go down too.
func bridgeMessage(random *rand.Rand) impl.Message {
	m := orderedMessage(random)
	for up := versionIn(m) + random.Intn(4-versionIn(m)); versionIn(m) < up; {
		m = turned(m, versionIn(m)+1)
	}
	return m
}

func TestPromise15UpAndDownAgain(t *testing.T) {
	random := rand.New(rand.NewSource(15))
	from := map[int]int{}
	for range 2000 {
		m := bridgeMessage(random)
		version := versionIn(m)
		from[version]++
		checkFinding(t, m, impl.Finding{})
		up := impl.UpOne(m)
		if version == 3 {
			check(t, "UpOne of the last version", up, bridgeFault(impl.ErrRange, ""))
			continue
		}
		what := named("promise 15", m)
		check(t, what, up, bridged(turned(m, version+1)))
		checkFinding(t, up.Message, impl.Finding{})
		check(t, what, impl.DownOne(up.Message), bridged(m))
	}
	if from[1] < 150 || from[2] < 300 || from[3] < 300 {
		t.Errorf("from %v", from)
	}
}

// checkStopped: what can't be carried is named, and is a place that the elder version finds out of order.
func checkStopped(t *testing.T, what string, m impl.Message, got impl.BridgeOut) {
	t.Helper()
	elder := turned(m, versionIn(m)-1)
	fault := findingByTable(elder)
	check(t, what, got, bridgeFault(impl.ErrCarry, fault.Path))
	checkFinding(t, elder, fault)
	checkNamed(t, elder, fault)
	name, _, _ := strings.Cut(fault.Path, "-")
	name, nth, _ := strings.Cut(name, "[")
	count := int64(1)
	if nth != "" {
		fmt.Sscan(nth, &count)
	}
	if impl.SegmentAt(m, name, count) < 0 {
		t.Errorf("%s: %q is no place of it", what, got.Path)
	}
}

func TestPromise16DownAndUpAgain(t *testing.T) {
	random := rand.New(rand.NewSource(16))
	came := map[string]int{}
	for range 2500 {
		m := bridgeMessage(random)
		version := versionIn(m)
		down := impl.DownOne(m)
		what := named("promise 16", m)
		switch {
		case version == 1:
			check(t, "DownOne of the first version", down, bridgeFault(impl.ErrRange, ""))
		case down.Code == impl.OK:
			came[fmt.Sprint("from ", version)]++
			check(t, what, down, bridged(turned(m, version-1)))
			checkFinding(t, down.Message, impl.Finding{})
			same(t, what, findingByTable(down.Message), impl.Finding{})
			check(t, what, impl.UpOne(down.Message), bridged(m))
		default:
			came[fmt.Sprint("stopped ", version)]++
			checkStopped(t, what, m, down)
		}
	}
	for _, way := range []string{"from 2", "from 3", "stopped 2", "stopped 3"} {
		if came[way] < 100 {
			t.Errorf("came down: %v", came)
		}
	}
}

// broughtByHand is what Bring is asked for, of an m that is in order, by the table and by hand.
func broughtByHand(m impl.Message, to int) impl.BridgeOut {
	for versionIn(m) != to {
		if versionIn(m) < to {
			m = turned(m, versionIn(m)+1)
			continue
		}
		m = turned(m, versionIn(m)-1)
		if fault := findingByTable(m); fault.Code != impl.OK {
			return bridgeFault(impl.ErrCarry, fault.Path)
		}
	}
	return bridged(m)
}

func TestBringAnyMessage(t *testing.T) {
	random := rand.New(rand.NewSource(17))
	for range 1000 {
		m := bridgeMessage(random)
		for to := 1; to <= 3; to++ {
			check(t, named(fmt.Sprint("Bring to ", to), m), impl.Bring(m, int64(to)), broughtByHand(m, to))
		}
		for range random.Intn(4) {
			m = disturb(random, m)
		}
		if fault := findingByTable(m); fault.Code != impl.OK {
			for _, got := range []impl.BridgeOut{impl.UpOne(m), impl.DownOne(m), impl.Bring(m, 2), impl.Bring(m, 0), impl.Acknowledge(m, "AA", "9"), impl.Acknowledge(m, "", "")} {
				check(t, named("out of order", m), got, bridgeFault(fault.Code, fault.Path))
			}
		}
	}
}

// checkOwn: what houses of their own put into a message stands there as it did, at its place, among as many others.
func checkOwn(t *testing.T, m impl.Message, got impl.BridgeOut) bool {
	t.Helper()
	if got.Code != impl.OK {
		return false
	}
	what := named("promise 17", m)
	check(t, what, impl.ZSegments(got.Message), impl.ZSegments(m))
	same(t, what, len(got.Message.Segments), len(m.Segments))
	for i, s := range m.Segments {
		if s.Name[0] == 'Z' {
			check(t, what, got.Message.Segments[i], s)
		}
	}
	return true
}

func TestPromise17HousesOwn(t *testing.T) {
	random := rand.New(rand.NewSource(18))
	over := make([]int, 5)
	for range 1000 {
		m := bridgeMessage(random)
		// A house's own may look like what the bridge changes.
		own := segmentOf("ZSH", m.Segments[0].Fields...)
		m.Segments = slices.Insert(m.Segments, 1+random.Intn(len(m.Segments)), own)
		var texts []string
		for _, s := range m.Segments {
			if s.Name[0] == 'Z' {
				texts = append(texts, impl.SegmentText(m.Marks, s))
			}
		}
		checkZ(t, named("promise 17", m), m, texts...)
		for way, got := range []impl.BridgeOut{impl.UpOne(m), impl.DownOne(m), impl.Bring(m, 1), impl.Bring(m, 2), impl.Bring(m, 3)} {
			if checkOwn(t, m, got) {
				over[way]++
			}
		}
	}
	if slices.Min(over) < 150 {
		t.Errorf("went over: %v", over)
	}
}

// answerByHand is the answer to an m that is in order.
func answerByHand(m impl.Message, code string, id string) impl.Message {
	asked := m.Segments[0].Fields
	from := asked[2]
	if len(from.Reps) == 0 {
		from = asked[0]
	}
	kind := []impl.Comp{compOf("ACK"), asked[6].Reps[0].Comps[1]}
	if versionIn(m) > 1 {
		kind = append(kind, compOf("ACK_"+kind[1].Subs[0]))
	}
	msh := segmentOf("MSH", from, impl.Field{}, asked[0], impl.Field{}, asked[4], impl.Field{}, fieldOf(repOf(kind...)), oneSub(id), impl.Field{}, asked[9])
	return impl.Message{Marks: m.Marks, Segments: []impl.Segment{msh, segmentOf("ZAK", oneSub(code), asked[7])}}
}

func TestPromise18Answers(t *testing.T) {
	random := rand.New(rand.NewSource(19))
	asked := map[bool]int{}
	for range 2000 {
		m := bridgeMessage(random)
		code := string([]byte{byte('A' + random.Intn(26)), byte('A' + random.Intn(26))})
		id := randomPlain(random, m.Marks, 1+random.Intn(60))
		what := named("promise 18", m, code, id)
		answer := impl.Acknowledge(m, code, id)
		check(t, what, answer, bridged(answerByHand(m, code, id)))
		checkFinding(t, answer.Message, impl.Finding{})
		same(t, what, findingByTable(answer.Message), impl.Finding{})
		same(t, what+": goes to who sent it", impl.ValueAt(answer.Message, first("MSH", 5)), impl.ValueAt(m, first("MSH", 3)))
		same(t, what+": names it", impl.ValueAt(answer.Message, first("ZAK", 2)), impl.ValueAt(m, first("MSH", 10)))
		same(t, what+": its version", versionIn(answer.Message), versionIn(m))
		asked[impl.ValueAt(m, first("MSH", 5)) != ""]++
		// The answer can be answered, and goes over the bridges like any other.
		check(t, what, impl.Acknowledge(answer.Message, "AA", "9"), bridged(answerByHand(answer.Message, "AA", "9")))
		check(t, what, impl.Bring(answer.Message, 3), broughtByHand(answer.Message, 3))
	}
	if asked[true] < 300 || asked[false] < 300 {
		t.Errorf("with and without MSH-5: %v", asked)
	}
}

// bridgeCalls: what each call answers for a message.
func bridgeCalls(m impl.Message, code string, id string) map[string]any {
	return map[string]any{
		"UpOne":       impl.UpOne(m),
		"DownOne":     impl.DownOne(m),
		"Bring to 1":  impl.Bring(m, 1),
		"Bring to 2":  impl.Bring(m, 2),
		"Bring to 3":  impl.Bring(m, 3),
		"Bring to 4":  impl.Bring(m, 4),
		"ZSegments":   impl.ZSegments(m),
		"Acknowledge": impl.Acknowledge(m, code, id),
	}
}

// bridgeLines: in order and not, with what can't be carried, with and without MSH-5.
func bridgeLines() []string {
	list := []string{
		head27 + "\rPRT||A", head251 + "\rNTE\rSFT|a|b", head23 + "|x", head23 + "\rOBR", `MSH|^~\&|FROM|HERE|TO|THERE|20240101||ADT^A01|100||2.3` + "\rZZZ|x~y^z&w\rZAK\rZ01|abc",
	}
	for version := int64(1); version <= 3; version++ {
		for _, lines := range carriedLines() {
			list = append(list, spelt(lines, "ADT^A01", version))
		}
	}
	return list
}

// roomyMessage has the same in lists that have room behind their ends, and in texts of its own.
func roomyMessage(m impl.Message) impl.Message {
	own := impl.Message{Marks: strings.Clone(m.Marks), Segments: make([]impl.Segment, 0, 25)}
	for _, s := range m.Segments {
		fresh := impl.Segment{Name: strings.Clone(s.Name), Fields: make([]impl.Field, 0, 35)}
		for _, f := range s.Fields {
			field := impl.Field{Reps: make([]impl.Rep, 0, 7)}
			for _, r := range f.Reps {
				rep := impl.Rep{Comps: make([]impl.Comp, 0, 12)}
				for _, c := range r.Comps {
					rep.Comps = append(rep.Comps, impl.Comp{Subs: append(make([]string, 0, 7), cloneTexts(c.Subs)...)})
				}
				field.Reps = append(field.Reps, rep)
			}
			fresh.Fields = append(fresh.Fields, field)
		}
		own.Segments = append(own.Segments, fresh)
	}
	return own
}

func TestBridgeApart(t *testing.T) {
	for _, lines := range bridgeLines() {
		m, code, id := roomyMessage(readLines(t, lines)), strings.Clone("AA"), strings.Clone("an id")
		given := []any{m, code, id}
		before := shape(given) + spareOf(m)
		calls := bridgeCalls(m, code, id)
		for name, answer := range calls {
			checkMemory(t, named(name, lines), answer, given...)
			for other, b := range calls {
				if name != other {
					checkMemory(t, named(name+" with "+other, lines), answer, b)
				}
			}
		}
		same(t, named("what was given", lines), shape(given)+spareOf(m), before)
	}
}

// MSH-3 may be what the answer has twice; the lists of what was handed in may share memory too.
func TestBridgeListsApart(t *testing.T) {
	m := readLines(t, head27+"\rNTE|||A\rZZZ|A\rZZZ|A")
	shared := m.Segments[0].Fields[0]
	m.Segments[0].Fields[2], m.Segments[1].Fields[2] = shared, shared
	m.Segments[2].Fields[0] = shared
	m.Segments[3] = m.Segments[2]
	before := shape(m)
	for name, answer := range bridgeCalls(m, "AA", "9") {
		checkMemory(t, name, answer, m)
	}
	same(t, "what was given", shape(m), before)
}

// What a bridge told may be handed in again.
func TestBridgeAnswersApart(t *testing.T) {
	for _, lines := range bridgeLines() {
		m := readLines(t, lines)
		for name, answer := range bridgeCalls(m, "AA", "9") {
			out, ok := answer.(impl.BridgeOut)
			if !ok || out.Code != impl.OK {
				continue
			}
			before := shape(out)
			for again, b := range bridgeCalls(out.Message, "AA", "9") {
				checkMemory(t, named(again+" behind "+name, lines), b, out.Message)
			}
			same(t, named("what was handed in again, "+name, lines), shape(out), before)
		}
	}
}

// scribble writes to all lists of a message, also behind their ends.
func scribble(m impl.Message) {
	for _, s := range m.Segments {
		for _, f := range s.Fields {
			for _, r := range f.Reps {
				for _, c := range r.Comps {
					subs := c.Subs[:cap(c.Subs)]
					for i := range subs {
						subs[i] = "scribbled"
					}
				}
				comps := r.Comps[:cap(r.Comps)]
				for i := range comps {
					comps[i] = compOf("scribbled")
				}
			}
			reps := f.Reps[:cap(f.Reps)]
			for i := range reps {
				reps[i] = repOf(compOf("scribbled"))
			}
		}
		fields := s.Fields[:cap(s.Fields)]
		for i := range fields {
			fields[i] = oneSub("scribbled")
		}
	}
	segments := m.Segments[:cap(m.Segments)]
	for i := range segments {
		segments[i] = segmentOf("ZZZ", oneSub("scribbled"))
	}
}

// What is written to a Message that was handed out is not seen in the one that was handed in, nor the other way round.
func TestBridgeWrittenTo(t *testing.T) {
	bridges := map[string]func(m impl.Message) impl.Message{
		"UpOne":       func(m impl.Message) impl.Message { return impl.UpOne(m).Message },
		"DownOne":     func(m impl.Message) impl.Message { return impl.DownOne(m).Message },
		"Bring to 1":  func(m impl.Message) impl.Message { return impl.Bring(m, 1).Message },
		"Bring to 2":  func(m impl.Message) impl.Message { return impl.Bring(m, 2).Message },
		"Bring to 3":  func(m impl.Message) impl.Message { return impl.Bring(m, 3).Message },
		"Acknowledge": func(m impl.Message) impl.Message { return impl.Acknowledge(m, "AA", "9").Message },
	}
	for _, lines := range bridgeLines() {
		for name, bridge := range bridges {
			m := roomyMessage(readLines(t, lines))
			in := shape(m) + spareOf(m)
			out := bridge(m)
			told := shape(out)
			scribble(out)
			same(t, named("handed in, "+name, lines), shape(m)+spareOf(m), in)
			out = bridge(m)
			same(t, named("told again, "+name, lines), shape(out), told)
			scribble(m)
			same(t, named("handed out, "+name, lines), shape(out), told)
		}
		m := roomyMessage(readLines(t, lines))
		texts := impl.ZSegments(m)
		told, in := shape(texts), shape(m)+spareOf(m)
		scribble(m)
		same(t, named("ZSegments", lines), shape(texts), told)
		m = roomyMessage(readLines(t, lines))
		texts = impl.ZSegments(m)
		for i := range texts {
			texts[i] = "scribbled"
		}
		same(t, named("handed in, ZSegments", lines), shape(m)+spareOf(m), in)
	}
}

// Nothing is kept from call to call: the same is told again, whatever was asked between.
func TestBridgeKeepsNothing(t *testing.T) {
	m := readLines(t, head251+"\rZZZ|x\rPV1||I")
	calls := bridgeCalls(m, "AA", "9")
	for _, lines := range bridgeLines() {
		bridgeCalls(readLines(t, lines), "ZZ", "other")
	}
	bridgeCalls(impl.Message{}, "", "")
	if again := bridgeCalls(m, "AA", "9"); !reflect.DeepEqual(again, calls) {
		t.Errorf("told again: %q, was %q", again, calls)
	}
}
