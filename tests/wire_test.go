package tests

import (
	"fmt"
	"slices"
	"strconv"
	"strings"
	"testing"

	"loop.example/g00416/impl"
)

// usual are the marks that stand in most messages.
const usual = `|^~\&`

func compOf(subs ...string) impl.Comp        { return impl.Comp{Subs: subs} }
func repOf(comps ...impl.Comp) impl.Rep      { return impl.Rep{Comps: comps} }
func fieldOf(reps ...impl.Rep) impl.Field    { return impl.Field{Reps: reps} }
func oneSub(text string) impl.Field          { return fieldOf(repOf(compOf(text))) }
func huge() string                           { return strings.Repeat("x", impl.MaxBytes+1) }
func shape(x any) string                     { return fmt.Sprintf("%q", x) }
func textFault(code int64) impl.TextOut      { return impl.TextOut{Code: code} }
func fieldFault(code int64) impl.FieldOut    { return impl.FieldOut{Code: code} }
func fieldTold(f impl.Field) impl.FieldOut   { return impl.FieldOut{Field: f} }
func named(what string, x ...any) string     { return what + " of " + fmt.Sprintf("%.120q", x) }
func many(text string, n int) []string       { return slices.Repeat([]string{text}, n) }
func manyComps(c impl.Comp, n int) impl.Rep  { return repOf(slices.Repeat([]impl.Comp{c}, n)...) }
func manyReps(r impl.Rep, n int) impl.Field  { return fieldOf(slices.Repeat([]impl.Rep{r}, n)...) }
func manySubs(text string, n int) impl.Field { return fieldOf(repOf(compOf(many(text, n)...))) }

// check holds what is told against what is asked; an empty list and none have one shape.
func check(t *testing.T, what string, got any, want any) {
	t.Helper()
	if shape(got) != shape(want) {
		t.Errorf("%s: got %.300q, want %.300q", what, got, want)
	}
}

// rightMarks and wrongMarks stand at the edges that chapter 5 names.
func rightMarks() []string {
	return []string{usual, `&\~^|`, "!\"#$%", "!~,/:", "'()*+", ";<=>?", "@[]_`", "{}!~_"}
}

func wrongMarks() []string {
	return []string{
		"", "|", `|^~\`, `|^~\&!`, `|^~\|`, `||~\&`, `|^^\&`, `|^~~&`, `|^~&&`, `^^^^^`,
		` ^~\&`, `|^~\ `, "|^~\\\x7f", "\x1f^~\\&", "\x80^~\\&", "|^~\\\xff", "|^~é", "\x00\x00\x00\x00\x00",
		`a^~\&`, `|z~\&`, `|^A\&`, `|^~Z&`, `|^~\0`, `9^~\&`, `|.~\&`, `|^-\&`, `|^~.&`, "\r^~\\&", "|\n~\\&",
		usual + usual, strings.Repeat("!", impl.MaxBytes),
	}
}

func TestMarksRight(t *testing.T) {
	for _, marks := range rightMarks() {
		check(t, named("MarksRight", marks), impl.MarksRight(marks), true)
	}
	for _, marks := range append(wrongMarks(), huge()) {
		check(t, named("MarksRight", marks), impl.MarksRight(marks), false)
	}
}

func TestMarksRightEachByte(t *testing.T) {
	barred := "abcdefghijklmnopqrstuvwxyzABCDEFGHIJKLMNOPQRSTUVWXYZ0123456789.-"
	for at := range len(usual) {
		for b := range 256 {
			raw := []byte(usual)
			others := usual[:at] + usual[at+1:]
			raw[at] = byte(b)
			want := b >= 33 && b <= 126 && strings.IndexByte(barred, byte(b)) < 0 && strings.IndexByte(others, byte(b)) < 0
			check(t, named("MarksRight", string(raw)), impl.MarksRight(string(raw)), want)
		}
	}
}

func TestEscapeOf(t *testing.T) {
	for text, want := range map[string]string{
		"":                "",
		"abc":             "abc",
		" ":               " ",
		"|":               `\F\`,
		"^":               `\S\`,
		"~":               `\R\`,
		`\`:               `\E\`,
		"&":               `\T\`,
		usual:             `\F\\S\\R\\E\\T\`,
		`a|b\c`:           `a\F\b\E\c`,
		`\F\`:             `\E\F\E\`,
		"FSRET":           "FSRET",
		"}!\"#$%'()*+,-.": "}!\"#$%'()*+,-.",
	} {
		check(t, named("EscapeOf", text), impl.EscapeOf(usual, text), want)
	}
	check(t, "EscapeOf by other marks", impl.EscapeOf("!\"#$%", `!"#$%|^~\&`), `$F$$S$$R$$E$$T$|^~\&`)
	check(t, "EscapeOf by marks turned round", impl.EscapeOf(`&\~^|`, usual), `^T^^E^^R^^S^^F^`)
}

func TestEscapeOfLimits(t *testing.T) {
	for b := range 256 {
		text := "a" + string([]byte{byte(b)}) + "z"
		want := text
		if b < 32 || b > 126 {
			want = ""
		}
		if at := strings.IndexByte(usual, byte(b)); at >= 0 {
			want = `a\` + "FSRET"[at:at+1] + `\z`
		}
		check(t, named("EscapeOf", text), impl.EscapeOf(usual, text), want)
	}
	for _, piece := range []string{"x", " ", "~"} {
		most := strings.Repeat(piece, 400)
		check(t, "EscapeOf of 400 bytes", impl.EscapeOf(usual, most), strings.ReplaceAll(most, "~", `\R\`))
		for _, more := range []int{401, impl.MaxBytes, impl.MaxBytes + 1} {
			check(t, "EscapeOf of too much", impl.EscapeOf(usual, strings.Repeat(piece, more)), "")
		}
	}
	check(t, "EscapeOf of runes", impl.EscapeOf(usual, "Müller"), "")
	for _, marks := range append(wrongMarks(), huge()) {
		check(t, named("EscapeOf by wrong marks", marks), impl.EscapeOf(marks, "abc"), "")
		check(t, named("EscapeOf by wrong marks", marks), impl.EscapeOf(marks, usual), "")
	}
}

func TestPlainOf(t *testing.T) {
	for text, want := range map[string]string{
		"":                "",
		"abc":             "abc",
		" ":               " ",
		`\F\`:             "|",
		`\S\`:             "^",
		`\R\`:             "~",
		`\E\`:             `\`,
		`\T\`:             "&",
		`\F\\S\\R\\E\\T\`: usual,
		`\E\F\E\`:         `\F\`,
		`a\T\b`:           "a&b",
		`\F\F\S\`:         "|F^",
		"FSRET":           "FSRET",
		`\E\\E\`:          `\\`,
		"!\"#$%'":         "!\"#$%'",
	} {
		check(t, named("PlainOf", text), impl.PlainOf(usual, text), impl.TextOut{Text: want})
	}
	check(t, "PlainOf by other marks", impl.PlainOf("!\"#$%", `$F$$S$$R$$E$$T$|^~\&`), impl.TextOut{Text: `!"#$%|^~\&`})
}

// brokenTexts are no EscapeOf of any text, by the usual marks.
func brokenTexts() []string {
	return []string{
		`\`, `a\`, `\\`, `\\\`, `\F`, `a\F`, `\Fa`, `\F\\`, `\F\F\`, `\X\`, `\f\`, `\FS\`, `\ F\`, `\.\`, `\1\`, `\e\`,
		`\X`, `a\X\b`, `\F\\S`, `|`, `^`, `~`, `&`, `a|b`, `a^b`, `a~b`, `a&b`, `\F\|`, `\|\`, `\F|`, `|\F\`,
		"\x1f", "\x7f", "\x80", "a\xff", "é", "a\r", "a\n", "\x00", `\F\` + "\x00", "\\\xff\\", "\\F\xff", `\Fé\`,
	}
}

func TestPlainOfBroken(t *testing.T) {
	for _, text := range brokenTexts() {
		check(t, named("PlainOf", text), impl.PlainOf(usual, text), textFault(impl.ErrSyntax))
	}
}

func TestPlainOfLimits(t *testing.T) {
	for _, piece := range []string{"x", `\R\`, `\E\`} {
		plain := impl.PlainOf(usual, piece).Text
		for _, n := range []int{399, 400} {
			want := impl.TextOut{Text: strings.Repeat(plain, n)}
			check(t, "PlainOf of "+strconv.Itoa(n), impl.PlainOf(usual, strings.Repeat(piece, n)), want)
		}
		for _, n := range []int{401, 1200, impl.MaxBytes / len(piece)} {
			check(t, "PlainOf of "+strconv.Itoa(n), impl.PlainOf(usual, strings.Repeat(piece, n)), textFault(impl.ErrSyntax))
		}
	}
}

// checkFaultOrder: size ahead of the marks, the marks ahead of what the text says.
func checkFaultOrder(t *testing.T, what string, broken []string, call func(marks string, text string) any, fault func(code int64) any) {
	t.Helper()
	texts := append([]string{"", "abc", "PID|1", strings.Repeat("x", impl.MaxBytes)}, broken...)
	for _, marks := range wrongMarks() {
		for _, text := range texts {
			check(t, named(what, marks, text), call(marks, text), fault(impl.ErrForm))
		}
		check(t, named(what+" of too much", marks), call(marks, huge()), fault(impl.ErrSize))
	}
	for _, text := range append(texts, huge()) {
		check(t, named(what+" by marks of too much", text), call(huge(), text), fault(impl.ErrSize))
	}
	check(t, what+" of too much", call(usual, huge()), fault(impl.ErrSize))
	check(t, what+" of too much that is broken", call(usual, `\`+huge()), fault(impl.ErrSize))
	check(t, what+" of as much as may be", call(usual, strings.Repeat("x", impl.MaxBytes)), fault(impl.ErrSyntax))
	for _, text := range broken {
		check(t, named(what, text), call(usual, text), fault(impl.ErrSyntax))
	}
}

func TestPlainOfFaultOrder(t *testing.T) {
	call := func(marks string, text string) any { return impl.PlainOf(marks, text) }
	checkFaultOrder(t, "PlainOf", brokenTexts(), call, func(code int64) any { return textFault(code) })
}

// textField is a right Field, and its text by the usual marks.
type textField struct {
	field impl.Field
	text  string
}

// rightFields stand at the edges that chapter 5 names.
func rightFields() map[string]textField {
	a, b, none := compOf("a"), compOf("b"), impl.Comp{}
	x60 := strings.Repeat("x", 60)
	return map[string]textField{
		"none":                      {impl.Field{}, ""},
		"no Reps, an empty list":    {fieldOf([]impl.Rep{}...), ""},
		"one sub":                   {oneSub("a"), "a"},
		"a blank":                   {oneSub(" "), " "},
		"the last plain byte":       {oneSub("}~"), `}\R\`},
		"a sub of 60":               {oneSub(x60), x60},
		"60 marks":                  {oneSub(strings.Repeat("|", 60)), strings.Repeat(`\F\`, 60)},
		"all marks":                 {oneSub(usual), `\F\\S\\R\\E\\T\`},
		"5 Subs":                    {manySubs("s", 5), "s&s&s&s&s"},
		"10 Comps":                  {fieldOf(manyComps(a, 10)), "a^a^a^a^a^a^a^a^a^a"},
		"5 Reps":                    {manyReps(repOf(a), 5), "a~a~a~a~a"},
		"an empty Sub first":        {fieldOf(repOf(compOf("", "x"))), "&x"},
		"an empty Sub inside":       {fieldOf(repOf(compOf("x", "", "y"))), "x&&y"},
		"four empty Subs ahead":     {fieldOf(repOf(compOf("", "", "", "", "y"))), "&&&&y"},
		"an empty Comp first":       {fieldOf(repOf(none, a)), "^a"},
		"an empty Comp inside":      {fieldOf(repOf(a, none, b)), "a^^b"},
		"an empty list of Subs":     {fieldOf(repOf(a, compOf([]string{}...), b)), "a^^b"},
		"nine empty Comps ahead":    {fieldOf(repOf(append(manyComps(none, 9).Comps, b)...)), "^^^^^^^^^b"},
		"an empty Rep first":        {fieldOf(impl.Rep{}, repOf(a)), "~a"},
		"an empty Rep inside":       {fieldOf(repOf(a), impl.Rep{}, repOf(b)), "a~~b"},
		"an empty list of Comps":    {fieldOf(repOf(a), repOf([]impl.Comp{}...), repOf(b)), "a~~b"},
		"four empty Reps ahead":     {fieldOf(impl.Rep{}, impl.Rep{}, impl.Rep{}, impl.Rep{}, repOf(b)), "~~~~b"},
		"empty ones at each depth":  {fieldOf(impl.Rep{}, repOf(none, compOf("", "x"))), "~^&x"},
		"what the tests ask for":    {fieldOf(repOf(compOf("a|b"), none, compOf("", "x")), repOf(compOf("c"))), `a\F\b^^&x~c`},
		"marks of another depth":    {fieldOf(repOf(compOf("~", "^"), compOf("&")), repOf(compOf("|", `\`))), `\R\&\S\^\T\~\F\&\E\`},
		"what looks like escaped":   {oneSub(`\F\`), `\E\F\E\`},
		"of each most, by one byte": {manyReps(manyComps(compOf(many("z", 5)...), 10), 5), most("z")},
	}
}

// most: the text of a Field that has of each part as many as may be.
func most(sub string) string {
	comp := strings.Join(many(sub, 5), "&")
	return strings.Join(many(strings.Join(many(comp, 10), "^"), 5), "~")
}

// wrongFields stand a step beyond those edges.
func wrongFields() map[string]impl.Field {
	a, none := compOf("a"), impl.Comp{}
	return map[string]impl.Field{
		"a sub of 61":                       oneSub(strings.Repeat("x", 61)),
		"61 marks":                          oneSub(strings.Repeat("|", 61)),
		"a sub of more than MaxBytes":       oneSub(huge()),
		"a byte 31":                         oneSub("\x1f"),
		"a byte 127":                        oneSub("a\x7f"),
		"a byte 128":                        oneSub("\x80"),
		"a rune":                            oneSub("é"),
		"a 13":                              oneSub("a\rb"),
		"a wrong sub ahead":                 fieldOf(repOf(compOf("\n", "a"))),
		"a long sub in the last of each":    fieldOf(repOf(a), repOf(a, compOf("a", strings.Repeat("x", 61)))),
		"6 Subs":                            manySubs("s", 6),
		"6 Subs, in a Comp ahead":           fieldOf(repOf(compOf(many("s", 6)...), a)),
		"11 Comps":                          fieldOf(manyComps(a, 11)),
		"11 Comps, in a Rep ahead":          fieldOf(manyComps(a, 11), repOf(a)),
		"6 Reps":                            manyReps(repOf(a), 6),
		"a last Sub empty":                  fieldOf(repOf(compOf("a", ""))),
		"only an empty Sub":                 oneSub(""),
		"empty Subs alone":                  manySubs("", 3),
		"a last Sub empty, Comp ahead":      fieldOf(repOf(compOf("a", ""), a)),
		"an empty Sub alone, Comp ahead":    fieldOf(repOf(compOf(""), a)),
		"a last Comp empty":                 fieldOf(repOf(a, none)),
		"only an empty Comp":                fieldOf(repOf(none)),
		"a last Comp of an empty list":      fieldOf(repOf(a, compOf([]string{}...))),
		"a last Comp empty, Rep ahead":      fieldOf(repOf(a, none), repOf(a)),
		"only an empty Comp, Rep ahead":     fieldOf(repOf(none), repOf(a)),
		"a last Rep empty":                  fieldOf(repOf(a), impl.Rep{}),
		"only an empty Rep":                 fieldOf(impl.Rep{}),
		"a last Rep of an empty list":       fieldOf(repOf(a), repOf([]impl.Comp{}...)),
		"five empty Reps":                   manyReps(impl.Rep{}, 5),
		"more Reps than a list may have":    manyReps(repOf(a), impl.MaxList+1),
		"a wrong Comp in a Rep of many":     fieldOf(repOf(a), repOf(a), repOf(a, compOf("a", "\x01"), a)),
		"an empty Sub at a deep Comp's end": fieldOf(repOf(a), repOf(none, compOf("x", "", ""), a), repOf(a)),
	}
}

func TestFieldRight(t *testing.T) {
	for name, c := range rightFields() {
		check(t, "FieldRight: "+name, impl.FieldRight(c.field), true)
	}
	for name, f := range wrongFields() {
		check(t, "FieldRight: "+name, impl.FieldRight(f), false)
	}
}

func TestFieldText(t *testing.T) {
	for name, c := range rightFields() {
		check(t, "FieldText: "+name, impl.FieldText(usual, c.field), c.text)
		for _, marks := range append(wrongMarks(), huge()) {
			check(t, "FieldText by wrong marks: "+name, impl.FieldText(marks, c.field), "")
		}
	}
	for name, f := range wrongFields() {
		check(t, "FieldText: "+name, impl.FieldText(usual, f), "")
	}
	odd := fieldOf(repOf(compOf("a!", `"`), compOf("#|")), repOf(compOf("$", "%")))
	check(t, "FieldText by other marks", impl.FieldText("!\"#$%", odd), `a$F$%$S$"$R$|#$E$%$T$`)
	full := strings.Repeat("|", 60)
	long := manyReps(manyComps(compOf(many(full, 5)...), 10), 5)
	check(t, "FieldText of more than MaxBytes", impl.FieldText(usual, long), most(strings.Repeat(`\F\`, 60)))
}

func TestFieldRead(t *testing.T) {
	for name, c := range rightFields() {
		check(t, "FieldRead: "+name, impl.FieldRead(usual, c.text), fieldTold(c.field))
	}
	odd := fieldOf(repOf(compOf("a!", `"`), compOf("#|")), repOf(compOf("$", "%")))
	check(t, "FieldRead by other marks", impl.FieldRead("!\"#$%", `a$F$%$S$"$R$|#$E$%$T$`), fieldTold(odd))
}

// brokenFields are no right Field's text, by the usual marks.
func brokenFields() []string {
	list := []string{
		"a^", "a&", "a~", "^", "&", "~", "a^b^", "a&b&", "a~b~", "a&^b", "&^b", "a^~b", "^~b", "a&~b", "a&b&~c", "a^^", "&&", "~~", "^^^",
		"a~b^", "a~b&", "a^b&", "a~^", "a^&", "a~&", "a|b", "|", "a|", "|a",
		strings.Repeat("x", 61), "a^" + strings.Repeat("x", 61) + "^b", strings.Repeat(`\F\`, 61),
		"s&s&s&s&s&s", "&&&&&s", "a^s&s&s&s&s&s^b", "a^a^a^a^a^a^a^a^a^a^a", "^^^^^^^^^^b", "a~a~a~a~a~a", "~~~~~a",
		strings.Repeat("~", impl.MaxBytes), strings.Repeat("a&", impl.MaxBytes/2),
	}
	for _, text := range brokenTexts() {
		if !strings.ContainsAny(text, "^~&") {
			list = append(list, text, "a^"+text, text+"^a", "a~"+text+"~a")
		}
	}
	return list
}

func TestFieldReadFaultOrder(t *testing.T) {
	call := func(marks string, text string) any { return impl.FieldRead(marks, text) }
	checkFaultOrder(t, "FieldRead", brokenFields(), call, func(code int64) any { return fieldFault(code) })
}

func TestFieldSame(t *testing.T) {
	for one, a := range rightFields() {
		for other, b := range rightFields() {
			check(t, "FieldSame: "+one+", "+other, impl.FieldSame(a.field, b.field), a.text == b.text)
		}
		for other, b := range wrongFields() {
			check(t, "FieldSame: "+one+", "+other, impl.FieldSame(a.field, b), false)
			check(t, "FieldSame: "+other+", "+one, impl.FieldSame(b, a.field), false)
		}
	}
	for one, a := range wrongFields() {
		check(t, "FieldSame with itself: "+one, impl.FieldSame(a, a), false)
	}
	for _, pair := range [][2]impl.Field{
		{oneSub("a"), oneSub("b")},
		{fieldOf(repOf(compOf("a", "b"))), fieldOf(repOf(compOf("a"), compOf("b")))},
		{fieldOf(repOf(compOf("a"), compOf("b"))), fieldOf(repOf(compOf("a")), repOf(compOf("b")))},
		{oneSub("a&b"), fieldOf(repOf(compOf("a", "b")))},
		{oneSub("a^b"), fieldOf(repOf(compOf("a"), compOf("b")))},
		{oneSub("a~b"), fieldOf(repOf(compOf("a")), repOf(compOf("b")))},
		{oneSub(`\T\`), oneSub("&")},
		{oneSub("a"), oneSub("a ")},
		{oneSub("a"), impl.Field{}},
	} {
		check(t, named("FieldSame", pair), impl.FieldSame(pair[0], pair[1]), false)
		check(t, named("FieldSame turned", pair), impl.FieldSame(pair[1], pair[0]), false)
	}
}
