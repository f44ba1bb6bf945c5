package tests

import (
	"math"
	"slices"
	"strconv"
	"strings"
	"sync"
	"testing"

	"loop.example/g00416/impl"
)

// ruleTable is chapter 7's table, row by row.
const ruleTable = `
MSH 3 text yes no 1
MSH 4 text no no 1
MSH 5 text no no 1
MSH 6 text no no 1
MSH 7 time yes no 1
MSH 9 kind yes no 1
MSH 10 text yes no 1
MSH 12 text yes no 1
MSH 18 code no yes 2
NTE 1 number no no 1
NTE 3 text no yes 1
OBX 1 number no no 1
OBX 3 coded yes no 1
OBX 5 text no yes 1
OBX 14 time no no 1
OBX 18 text no no 2
PID 1 number no no 1
PID 3 text yes yes 1
PID 5 name yes yes 1
PID 7 day no no 1
PID 8 code no no 1
PID 10 coded no no 2
PRT 2 code yes no 3
PRT 5 person no yes 3
PV1 2 code yes no 1
PV1 7 person no yes 1
SFT 1 text yes no 2
SFT 2 text yes no 2
`

// typeWords: the types in the table's words, each at its number.
var typeWords = []string{"", "text", "number", "day", "time", "code", "name", "person", "kind", "coded"}

// tableRows are read once, and only read.
var tableRows = tableRules()

func tableRules() []impl.Rule {
	var list []impl.Rule
	for line := range strings.Lines(strings.TrimSpace(ruleTable)) {
		words := strings.Fields(line)
		field, _ := strconv.ParseInt(words[1], 10, 64)
		since, _ := strconv.ParseInt(words[5], 10, 64)
		list = append(list, impl.Rule{
			Seg: words[0], Field: field, Type: int64(slices.Index(typeWords, words[2])),
			Must: words[3] == "yes", Many: words[4] == "yes", Since: since,
		})
	}
	return list
}

// tableRule is the zero one, where the table has no row for it.
func tableRule(version int64, seg string, field int64) impl.Rule {
	for _, r := range tableRows {
		if r.Seg == seg && r.Field == field && r.Since <= version && version <= 3 {
			return r
		}
	}
	return impl.Rule{}
}

func tableKnows(version int64, seg string) bool {
	return slices.ContainsFunc(tableRows, func(r impl.Rule) bool { return r.Seg == seg && r.Since <= version && version <= 3 })
}

// noVersions are numbers that are none.
func noVersions() []int64 {
	return []int64{0, 4, -1, -2, -3, 5, 6, 100, 1 << 32, 1<<32 + 1, 1<<32 + 3, math.MaxInt64, math.MinInt64, math.MinInt64 + 1}
}

func anyVersions() []int64 { return append([]int64{1, 2, 3}, noVersions()...) }

// tableSegs are the table's, and others that are none of it.
func tableSegs() []string {
	return []string{
		"MSH", "NTE", "OBX", "PID", "PRT", "PV1", "SFT",
		"", "M", "MS", "MSHX", "msh", "Pid", "PV2", "OBR", "ZZZ", "Z01", "P1V", "PID ", " PID", "PID-3", "éA",
		huge(), strings.Repeat("MSH", 3000), "MSH" + huge(),
	}
}

func TestRulesAreTheTable(t *testing.T) {
	rows, rules := tableRules(), impl.Rules()
	if len(rows) != 28 || len(rules) != len(rows) {
		t.Fatalf("%d Rules, %d rows", len(rules), len(rows))
	}
	for i, row := range rows {
		same(t, "the row "+strconv.Itoa(i), rules[i], row)
	}
	same(t, "text", impl.TyText, 1)
	same(t, "number", impl.TyNumber, 2)
	same(t, "day", impl.TyDay, 3)
	same(t, "time", impl.TyTime, 4)
	same(t, "code", impl.TyCode, 5)
	same(t, "name", impl.TyName, 6)
	same(t, "person", impl.TyPerson, 7)
	same(t, "kind", impl.TyKind, 8)
	same(t, "coded", impl.TyCoded, 9)
}

// A list that was handed out is the caller's: what is written to it, or behind its end, is seen by no later call.
func TestRulesHandedOut(t *testing.T) {
	for range 3 {
		a, b := impl.Rules(), impl.Rules()
		for i := range a {
			a[i] = impl.Rule{Seg: "PRT", Field: int64(i), Type: impl.TyDay, Must: true, Many: true, Since: 1}
		}
		_ = append(a[:0], make([]impl.Rule, cap(a))...)
		if !slices.Equal(b, tableRules()) || !slices.Equal(impl.Rules(), tableRules()) {
			t.Fatalf("Rules are %+v", impl.Rules())
		}
		checkRuleOf(t)
	}
}

func checkRuleOf(t *testing.T) {
	t.Helper()
	for _, version := range anyVersions() {
		for _, seg := range tableSegs() {
			for field := int64(-3); field <= 40; field++ {
				if got, want := impl.RuleOf(version, seg, field), tableRule(version, seg, field); got != want {
					t.Errorf("RuleOf(%d, %.20q, %d): got %+v, want %+v", version, seg, field, got, want)
				}
			}
		}
	}
}

func TestRuleOf(t *testing.T) {
	checkRuleOf(t)
	for _, row := range tableRules() {
		for version := row.Since; version <= 3; version++ {
			same(t, named("RuleOf a row", row.Seg), impl.RuleOf(version, row.Seg, row.Field), row)
		}
		same(t, named("RuleOf one below", row.Seg), impl.RuleOf(row.Since-1, row.Seg, row.Field), impl.Rule{})
	}
	for _, field := range wrongNumbers() {
		same(t, "RuleOf a Field that there is not", impl.RuleOf(3, "SFT", field), impl.Rule{})
	}
}

func TestKnown(t *testing.T) {
	for _, version := range anyVersions() {
		for _, seg := range tableSegs() {
			if got, want := impl.Known(version, seg), tableKnows(version, seg); got != want {
				t.Errorf("Known(%d, %.20q): got %v", version, seg, got)
			}
		}
	}
	for seg, since := range map[string]int64{"MSH": 1, "NTE": 1, "OBX": 1, "PID": 1, "PV1": 1, "SFT": 2, "PRT": 3} {
		for version := int64(-1); version <= 5; version++ {
			same(t, named("Known", seg), impl.Known(version, seg), version >= since && version <= 3)
		}
	}
}

// What a version has not is taken from no other one's Rules, in whatever order they are asked.
func TestRulesOfVersionsApart(t *testing.T) {
	for _, version := range []int64{3, 1, 3, 2, 1, 2, 3, 0, 3, 4, -1, 3} {
		same(t, "PRT-2", impl.RuleOf(version, "PRT", 2).Must, version == 3)
		same(t, "SFT-1", impl.RuleOf(version, "SFT", 1).Must, version == 2 || version == 3)
		same(t, "Known SFT", impl.Known(version, "SFT"), version == 2 || version == 3)
		same(t, "CheckField", impl.CheckField(3, "PRT", 2, oneSub("A")), impl.OK)
	}
}

func TestRulesOfManyAtATime(t *testing.T) {
	var all sync.WaitGroup
	wrong := make([]bool, 8)
	for i := range wrong {
		all.Go(func() {
			for n := range int64(200) {
				version := 1 + (n+int64(i))%3
				wrong[i] = wrong[i] || impl.RuleOf(version, "PRT", 5) != tableRule(version, "PRT", 5) || impl.Known(version, "SFT") != (version > 1)
			}
		})
	}
	all.Wait()
	if slices.Contains(wrong, true) {
		t.Errorf("asked at a time: %v", wrong)
	}
}

func TestVersions(t *testing.T) {
	for version, text := range map[int64]string{1: "2.3", 2: "2.5.1", 3: "2.7"} {
		same(t, "VersionText", impl.VersionText(version), text)
		same(t, named("VersionOf", text), impl.VersionOf(text), version)
	}
	for _, version := range noVersions() {
		same(t, "VersionText of no version", impl.VersionText(version), "")
	}
	for _, text := range []string{
		"", "2", "2.", "2.4", "2.5", "2.5.", "2.5.2", "2.5.1.", "2.5.10", "2.6", "2.8", "2.30", "2.3 ", " 2.3", "2.3.1", "02.3", "2,3", "1", "3", "0", "2.7\r", "2.7\x00", "V2.3",
		huge(), "2.3" + huge(), strings.Repeat("2.7", 3000), strings.Repeat("2", impl.MaxBytes),
	} {
		same(t, named("VersionOf", text), impl.VersionOf(text), 0)
	}
	eachText("2.3571", 5, func(text string) {
		want := max(0, slices.Index([]string{"", "2.3", "2.5.1", "2.7"}, text))
		same(t, named("VersionOf", text), impl.VersionOf(text), int64(want))
	})
}
