package tests

import (
	"fmt"
	"math"
	"math/rand"
	"regexp"
	"slices"
	"strings"
	"testing"

	"loop.example/g00416/impl"
)

// Patterns of a Rep's text by the usual marks: a sub that is not empty, and a Comp of any Subs.
const (
	subText  = `[^|^~&]+`
	compText = `[^|^~]+`
)

var (
	textPattern        = regexp.MustCompile(`^` + subText + `$`)
	codePattern        = regexp.MustCompile(`^[A-Z]{1,3}$`)
	namePattern        = regexp.MustCompile(`^` + compText + `(\^(` + subText + `)?){0,4}$`)
	elderPersonPattern = regexp.MustCompile(`^` + subText + `(\^(` + subText + `)?){0,2}$`)
	personPattern      = regexp.MustCompile(`^` + compText + `(\^(` + compText + `)?){0,7}$`)
	kindPattern        = regexp.MustCompile(`^([A-Z]{3})\^([A-Z][A-Z0-9]{2})(?:\^(.*))?$`)
	elderCodedPattern  = regexp.MustCompile(`^` + subText + `(\^(` + subText + `)?){0,5}$`)
	codedPattern       = regexp.MustCompile(`^` + subText + `(\^(` + subText + `)?){0,8}$`)
)

func timeByPattern(version int64, text string) bool {
	return len(text) >= 8 && impl.DayRight(text[:8]) && clockByPattern(version, text[8:])
}

func kindByPattern(version int64, text string) bool {
	found := kindPattern.FindStringSubmatch(text)
	if found == nil {
		return false
	}
	if version == 1 {
		return strings.Count(text, "^") == 1
	}
	return strings.Count(text, "^") == 2 && found[3] == found[1]+"_"+found[2]
}

// fitsByPattern: does a right Rep of this text fit, by the chapter's words?
func fitsByPattern(version int64, kind int64, text string) bool {
	if version < 1 || version > 3 {
		return false
	}
	switch kind {
	case impl.TyText:
		return textPattern.MatchString(text)
	case impl.TyNumber:
		return numberByPattern(text)
	case impl.TyDay:
		return len(text) == 8 && timeByPattern(1, text)
	case impl.TyTime:
		return timeByPattern(version, text)
	case impl.TyCode:
		return codePattern.MatchString(text) && (version > 1 || text != "A" && text != "N")
	case impl.TyName:
		return namePattern.MatchString(text)
	case impl.TyPerson:
		return version == 1 && elderPersonPattern.MatchString(text) || version > 1 && personPattern.MatchString(text)
	case impl.TyKind:
		return kindByPattern(version, text)
	case impl.TyCoded:
		return elderCodedPattern.MatchString(text) || version == 3 && codedPattern.MatchString(text)
	}
	return false
}

func noTypes() []int64 {
	return []int64{0, -1, 10, 11, 100, 1<<32 + 1, math.MaxInt64, math.MinInt64}
}

func allTypes() []int64 { return []int64{1, 2, 3, 4, 5, 6, 7, 8, 9} }

// checkFits: a right Rep fits just those types that its text has the pattern of.
func checkFits(t *testing.T, r impl.Rep) {
	t.Helper()
	text := impl.FieldText(usual, fieldOf(r))
	for version := int64(0); version <= 4; version++ {
		for kind := int64(0); kind <= 10; kind++ {
			if got, want := impl.RepFits(version, kind, r), fitsByPattern(version, kind, text); got != want {
				t.Errorf("RepFits(%d, %d, %.200q): got %v", version, kind, text, got)
			}
		}
	}
}

// fitCase: a Rep's text, and the versions of which it fits.
type fitCase struct {
	text, versions string
}

// comps: the text of so many Comps of this one.
func comps(text string, n int) string { return strings.Join(many(text, n), "^") }

// fitCases stand at the edges that chapter 7 names for each type.
func fitCases() map[int64][]fitCase {
	long := strings.Repeat("x", 60)
	return map[int64][]fitCase{
		impl.TyText: {
			{"a", "123"}, {" ", "123"}, {"-", "123"}, {`a\T\b\S\c\R\d\F\e\E\f`, "123"}, {long, "123"}, {strings.Repeat(`\T\`, 60), "123"},
			{"a&b", ""}, {"&b", ""}, {"a^b", ""}, {"^b", ""}, {"^&b", ""}, {comps("a", 10), ""}, {"a&b&c&d&e", ""},
		},
		impl.TyNumber: {
			{"0", "123"}, {"-0", "123"}, {"-1.50", "123"}, {"1234567890123456", "123"}, {"12345678901234567", ""}, {"01", ""}, {"-", ""}, {".5", ""}, {"5.", ""}, {"+1", ""}, {" ", ""}, {"a", ""},
			{"1^1", ""}, {"^1", ""}, {"1&1", ""}, {"&1", ""}, {"20240101", "123"},
		},
		impl.TyDay: {
			{"20240229", "123"}, {"20230229", ""}, {"18000101", "123"}, {"17991231", ""}, {"2024022", ""}, {"202402291", ""}, {"2024022900", ""}, {"20240229+0100", ""},
			{"20240229^a", ""}, {"^20240229", ""}, {"20240229&1", ""}, {"&20240229", ""},
		},
		impl.TyTime: {
			{"20240229", "123"}, {"20230229", ""}, {"2024022923", "123"}, {"2024022924", ""}, {"202402291230", "123"}, {"20240229123059", "123"}, {"20240229123059.1", "23"}, {"20240229123059.12345", ""},
			{"20240229+0100", "3"}, {"20240229123059-1459", "3"}, {"20240229123059.1234-1459", "3"}, {"20240229-1500", ""}, {"12", ""},
			{"20240229^a", ""}, {"^20240229", ""}, {"20240229&1", ""}, {"&20240229", ""},
		},
		impl.TyCode: {
			{"A", "23"}, {"N", "23"}, {"B", "123"}, {"M", "123"}, {"O", "123"}, {"Z", "123"}, {"AA", "123"}, {"NN", "123"}, {"AN", "123"}, {"NA", "123"}, {"AAA", "123"}, {"NNN", "123"}, {"XYZ", "123"}, {"AAAA", ""}, {"WXYZ", ""},
			{"a", ""}, {"n", ""}, {"Aa", ""}, {"aA", ""}, {"ABc", ""}, {"1", ""}, {"A1", ""}, {"A ", ""}, {" A", ""}, {"@", ""}, {"[", ""}, {"A[", ""}, {"@A", ""}, {"-", ""},
			{"A^B", ""}, {"^A", ""}, {"A&B", ""}, {"&A", ""}, {"B^", "none"}, {`\T\`, ""},
		},
		impl.TyName: {
			{"a", "123"}, {comps("a", 2), "123"}, {comps("a", 4), "123"}, {comps("a", 5), "123"}, {comps("a", 6), ""}, {comps("a", 10), ""}, {"a^^^^e", "123"}, {"a^^^^^f", ""},
			{"^b", ""}, {"^^^^e", ""}, {"^&b", ""}, {"a&b", "123"}, {"a&b&c&d&e", "123"}, {"&b", "123"}, {"a&b^c", "123"}, {"a&b^c^d^e^f", "123"}, {"a&b^c^d^e^f^g", ""},
			{"a^b&c", ""}, {"a^&c", ""}, {"a^^b&c", ""}, {"a^b^c^d&d", ""}, {"a^b^c^d^e&e", ""}, {"a&a^b&b", ""}, {"a^^^^&e", ""}, {long, "123"},
		},
		impl.TyPerson: {
			{"a", "123"}, {comps("a", 2), "123"}, {comps("a", 3), "123"}, {comps("a", 4), "23"}, {comps("a", 7), "23"}, {comps("a", 8), "23"}, {comps("a", 9), ""}, {comps("a", 10), ""}, {"a^^c", "123"}, {"a^^^d", "23"}, {"a^^^^^^^h", "23"}, {"a^^^^^^^^i", ""},
			{"^b", ""}, {"^b&c", ""}, {"^^^^^^^h", ""}, {"a&b", "23"}, {"&b", "23"}, {"a^b&c", "23"}, {"a^&c", "23"}, {"a^b^c&d", "23"}, {"a^b^&d", "23"}, {comps("a&b", 3), "23"}, {comps("a&b", 8), "23"}, {comps("a&b&c&d&e", 8), "23"}, {comps("a&b", 9), ""}, {comps("a", 7) + "^b&c", "23"},
		},
		impl.TyKind: {
			{"ADT^A01", "1"}, {"ADT^A01^ADT_A01", "23"}, {"ACK^ABC", "1"}, {"ACK^ABC^ACK_ABC", "23"}, {"ADT^Z99", "1"}, {"ADT^A01^ADT_A02", ""}, {"ADT^A01^ACK_A01", ""}, {"ADT^A01^A01_ADT", ""}, {"ADT^A01^ADTA01", ""}, {"ADT^A01^ADT-A01", ""}, {"ADT^A01^ADT__A01", ""}, {"ADT^A01^ADT_A01 ", ""}, {"ADT^A01^ ADT_A01", ""}, {"ADT^A01^adt_a01", ""}, {"ADT^A01^ADT", ""}, {"ADT^A01^_", ""}, {"ADT^A01^ADT_", ""}, {"ADT^A01^_A01", ""},
			{"ADT", ""}, {"ADT^^ADT_A01", ""}, {"ADT^^ADT_", ""}, {"^A01", ""}, {"^A01^_A01", ""}, {"^A01^ADT_A01", ""}, {"ADT^A01^ADT_A01^x", ""}, {"ADT^A01^^x", ""}, {"ADT^A01^ADT_A01^^^x", ""},
			{"AD^A01", ""}, {"AD^A01^AD_A01", ""}, {"ADTX^A01", ""}, {"ADTX^A01^ADTX_A01", ""}, {"adt^A01", ""}, {"adt^A01^adt_A01", ""}, {"AD1^A01", ""}, {"AD1^A01^AD1_A01", ""}, {"1DT^A01", ""}, {"A1T^A01^A1T_A01", ""}, {"A T^A01", ""},
			{"ADT^101", ""}, {"ADT^101^ADT_101", ""}, {"ADT^A0", ""}, {"ADT^A0^ADT_A0", ""}, {"ADT^A011", ""}, {"ADT^A011^ADT_A011", ""}, {"ADT^a01", ""}, {"ADT^a01^ADT_a01", ""}, {"ADT^A0a", ""}, {"ADT^A 1^ADT_A 1", ""},
			{"ADT&x^A01", ""}, {"ADT&x^A01^ADT_A01", ""}, {"ADT^A01&x", ""}, {"ADT^A01&x^ADT_A01", ""}, {"ADT^A01^ADT_A01&x", ""}, {"&ADT^A01", ""}, {"ADT^&A01", ""}, {"ADT^A01^&ADT_A01", ""},
		},
		impl.TyCoded: {
			{"a", "123"}, {comps("a", 2), "123"}, {comps("a", 5), "123"}, {comps("a", 6), "123"}, {comps("a", 7), "3"}, {comps("a", 8), "3"}, {comps("a", 9), "3"}, {comps("a", 10), ""}, {"a^^^^^f", "123"}, {"a^^^^^^g", "3"}, {"a^^^^^^^^i", "3"}, {"a^^^^^^^^^j", ""},
			{"^b", ""}, {"^b^c^d^e^f", ""}, {"a&b", ""}, {"&b", ""}, {"a^b&c", ""}, {"a^&c", ""}, {"a^b^c&d", ""}, {comps("a", 5) + "^b&c", ""}, {comps("a", 8) + "^b&c", ""}, {comps("a&b", 6), ""}, {long, "123"},
		},
	}
}

// typeCases are made once, and only read.
var typeCases = fitCases()

func TestRepFits(t *testing.T) {
	for kind, list := range typeCases {
		for _, c := range list {
			if c.versions == "none" {
				same(t, named("no right Field", c.text), impl.FieldRead(usual, c.text).Code, impl.ErrSyntax)
				continue
			}
			f := readField(t, c.text)
			for version := int64(1); version <= 3; version++ {
				want := strings.Contains(c.versions, fmt.Sprint(version))
				same(t, fmt.Sprintf("RepFits(%d, %s, %.200q)", version, typeWords[kind], c.text), impl.RepFits(version, kind, f.Reps[0]), want)
			}
			checkFits(t, f.Reps[0])
			for _, version := range noVersions() {
				same(t, named("RepFits of no version", c.text), impl.RepFits(version, kind, f.Reps[0]), false)
			}
			for _, wrong := range noTypes() {
				same(t, named("RepFits of no type", c.text), impl.RepFits(2, wrong, f.Reps[0]), false)
			}
		}
	}
}

// An empty Rep may stand in a right Field, and fits nothing.
func TestRepFitsEmpty(t *testing.T) {
	for _, version := range anyVersions() {
		for _, kind := range append(allTypes(), noTypes()...) {
			same(t, "RepFits of none", impl.RepFits(version, kind, impl.Rep{}), false)
			same(t, "RepFits of an empty list", impl.RepFits(version, kind, repOf([]impl.Comp{}...)), false)
		}
	}
}

// strayReps could be none of a right Field, though what stands in them would do for a type.
func strayReps() map[string]impl.Rep {
	a, none := compOf("A"), impl.Comp{}
	adt, a01, both := compOf("ADT"), compOf("A01"), compOf("ADT_A01")
	return map[string]impl.Rep{
		"an empty Sub":                     repOf(compOf("")),
		"an empty Comp":                    repOf(none),
		"two empty Comps":                  repOf(none, none),
		"an empty Sub behind":              repOf(compOf("AB", "")),
		"an empty Sub behind, two":         repOf(compOf("AB", ""), a),
		"an empty Comp behind":             repOf(compOf("AB"), none),
		"an empty Comp behind, of a list":  repOf(compOf("AB"), compOf([]string{}...)),
		"an empty Sub in a Comp behind":    repOf(compOf("AB"), compOf("")),
		"an empty Sub in a Comp between":   repOf(compOf("AB"), compOf(""), a),
		"6 Subs":                           repOf(compOf(many("A", 6)...)),
		"6 Subs in a Comp behind":          repOf(a, compOf(many("A", 6)...)),
		"11 Comps":                         manyComps(a, 11),
		"more Comps than a list":           manyComps(a, impl.MaxList+1),
		"11 Comps, ten of them empty":      repOf(append([]impl.Comp{a}, make([]impl.Comp, 10)...)...),
		"a sub of 61":                      repOf(compOf(strings.Repeat("A", 61))),
		"a sub of 61 behind":               repOf(a, compOf(strings.Repeat("A", 61))),
		"a sub of more than MaxBytes":      repOf(compOf(huge())),
		"a byte 31":                        repOf(compOf("A\x1f")),
		"a byte 127":                       repOf(compOf("A\x7f")),
		"a byte 128":                       repOf(compOf("A\x80")),
		"a rune":                           repOf(compOf("é")),
		"a 13 behind":                      repOf(a, compOf("\r")),
		"a kind and an empty Comp":         repOf(adt, a01, none),
		"a kind of three and an empty one": repOf(adt, a01, both, none),
		"a kind of an empty Sub":           repOf(adt, a01, compOf("ADT_A01", "")),
		"a number and an empty Comp":       repOf(compOf("1"), none),
		"a day and an empty Sub":           repOf(compOf("20240101", "")),
		"a day and an empty Comp":          repOf(compOf("20240101"), none),
	}
}

func TestRepFitsStray(t *testing.T) {
	for name, r := range strayReps() {
		same(t, name, impl.FieldRight(fieldOf(r, repOf(compOf("a")))), false)
		for _, version := range anyVersions() {
			for _, kind := range append(allTypes(), noTypes()...) {
				same(t, "RepFits of "+name, impl.RepFits(version, kind, r), false)
			}
		}
	}
}

func TestRepFitsEachText(t *testing.T) {
	for _, c := range []struct {
		alphabet string
		bytes    int
	}{{"A^&", 8}, {"AN1^&", 5}, {"aN^.", 5}, {"Z[@ ", 4}} {
		eachText(c.alphabet, c.bytes, func(text string) {
			if f := impl.FieldRead(usual, text); f.Code == impl.OK && len(f.Field.Reps) == 1 {
				checkFits(t, f.Field.Reps[0])
			}
		})
	}
}

// Each count of Comps, each of them in its turn the one of more Subs, or the empty one.
func TestRepFitsEachComp(t *testing.T) {
	for count := 1; count <= 10; count++ {
		checkFits(t, manyComps(compOf("AB"), count))
		for at := range count {
			for _, other := range []impl.Comp{{}, compOf("a", "b"), compOf("", "b"), compOf(many("x", 5)...)} {
				r := manyComps(compOf("AB"), count)
				r.Comps[at] = other
				if impl.FieldRight(fieldOf(r)) {
					checkFits(t, r)
				}
			}
		}
	}
}

// nearRep: one that fits a type of a version, as a rule; then, at times, a little off.
func nearRep(random *rand.Rand) impl.Rep {
	list := typeCases[int64(1+random.Intn(9))]
	f := impl.FieldRead(usual, list[random.Intn(len(list))].text).Field
	if len(f.Reps) == 0 {
		return impl.Rep{}
	}
	r := f.Reps[0]
	switch at := random.Intn(len(r.Comps)); random.Intn(6) {
	case 0:
		r.Comps = slices.Insert(r.Comps, at, compOf(r.Comps[at].Subs...))
	case 1:
		r.Comps[at] = compOf(append([]string{"x"}, r.Comps[at].Subs...)...)
	case 2:
		r.Comps[at] = impl.Comp{}
	case 3:
		return randomRep(random, usual, 10, 4)
	}
	return r
}

func TestRepFitsNear(t *testing.T) {
	random := rand.New(rand.NewSource(20))
	for range 20000 {
		r := nearRep(random)
		if impl.FieldRight(fieldOf(r, repOf(compOf("a")))) {
			checkFits(t, r)
		} else {
			for kind := range int64(11) {
				same(t, named("RepFits", r), impl.RepFits(1+kind%3, kind, r), false)
			}
		}
	}
}
