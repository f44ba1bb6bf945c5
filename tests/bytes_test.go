package tests

import (
	"bytes"
	"encoding/binary"
	"hash/crc32"
	"math"
	"math/rand"
	"strings"
	"testing"

	"loop.example/g00416/impl"
)

// edgeNumbers: the numbers at which a byte more is needed, with their neighbours, and the ends of int64.
func edgeNumbers() []int64 {
	list := []int64{0, 1, -1, 2, -2, math.MaxInt64, math.MaxInt64 - 1, math.MinInt64, math.MinInt64 + 1}
	for bits := 6; bits < 63; bits += 7 {
		edge := int64(1) << bits
		list = append(list, edge-1, edge, edge+1, -edge-1, -edge, -edge+1)
	}
	return list
}

func checkNum(t *testing.T, text string, at int64, want impl.NumOut) {
	t.Helper()
	if got := impl.GetNum(text, at); got != want {
		t.Errorf("GetNum(%.40q, %d) = %+v, want %+v", text, at, got, want)
	}
}

func checkText(t *testing.T, text string, at int64, want impl.TextOut) {
	t.Helper()
	if got := impl.GetText(text, at); got != want {
		t.Errorf("GetText(%.40q, %d) = %.40q, %d, %d, want %.40q, %d, %d", text, at, got.Text, got.At, got.Code, want.Text, want.At, want.Code)
	}
}

func TestPutNumBytes(t *testing.T) {
	for _, c := range []struct {
		n    int64
		want string
	}{
		{0, "\x00"},
		{-1, "\x01"},
		{1, "\x02"},
		{63, "\x7e"},
		{-64, "\x7f"},
		{64, "\x80\x01"},
		{-65, "\x81\x01"},
		{8191, "\xfe\x7f"},
		{-8192, "\xff\x7f"},
		{8192, "\x80\x80\x01"},
		{math.MaxInt64, "\xfe\xff\xff\xff\xff\xff\xff\xff\xff\x01"},
		{math.MinInt64, "\xff\xff\xff\xff\xff\xff\xff\xff\xff\x01"},
	} {
		if got := impl.PutNum(c.n); got != c.want {
			t.Errorf("PutNum(%d) = %q, want %q", c.n, got, c.want)
		}
	}
}

func TestPutNumAgainstVarint(t *testing.T) {
	random := rand.New(rand.NewSource(1))
	list := edgeNumbers()
	for range 2000 {
		list = append(list, int64(random.Uint64())>>random.Intn(64))
	}
	for _, n := range list {
		want := string(binary.AppendVarint(nil, n))
		if got := impl.PutNum(n); got != want {
			t.Errorf("PutNum(%d) = %q, want %q", n, got, want)
		}
	}
}

func TestPromise1NumbersComeBack(t *testing.T) {
	for _, n := range edgeNumbers() {
		put := impl.PutNum(n)
		checkNum(t, put, 0, impl.NumOut{N: n, At: int64(len(put))})
		checkNum(t, "\xffab"+put+"\x80\x00", 3, impl.NumOut{N: n, At: int64(3 + len(put))})
	}
}

func TestPromise1NumbersOneBehindTheOther(t *testing.T) {
	var all strings.Builder
	list := edgeNumbers()
	for _, n := range list {
		all.WriteString(impl.PutNum(n))
	}
	at := int64(0)
	for _, n := range list {
		got := impl.GetNum(all.String(), at)
		if got.Code != impl.OK || got.N != n {
			t.Fatalf("at %d: got %+v, want %d", at, got, n)
		}
		at = got.At
	}
	if at != int64(all.Len()) {
		t.Errorf("the last number ends at %d of %d", at, all.Len())
	}
}

func TestGetNumPlaces(t *testing.T) {
	form, short := impl.NumOut{Code: impl.ErrForm}, impl.NumOut{Code: impl.ErrShort}
	checkNum(t, "\x02", -1, form)
	checkNum(t, "", -1, form)
	checkNum(t, "\x02", math.MinInt64, form)
	checkNum(t, "\x80\x00", -1, form)
	checkNum(t, "", 0, short)
	checkNum(t, "\x02", 1, short)
	checkNum(t, "\x02", 2, short)
	checkNum(t, "\x02", math.MaxInt64, short)
}

func TestGetNumCutOff(t *testing.T) {
	for _, n := range edgeNumbers() {
		put := impl.PutNum(n)
		for cut := range len(put) {
			checkNum(t, put[:cut], 0, impl.NumOut{Code: impl.ErrShort})
		}
	}
	checkNum(t, strings.Repeat("\x80", 9), 0, impl.NumOut{Code: impl.ErrShort})
	checkNum(t, strings.Repeat("\xff", 9), 0, impl.NumOut{Code: impl.ErrShort})
}

func TestGetNumWrongBytes(t *testing.T) {
	wrong := impl.NumOut{Code: impl.ErrSyntax}
	for behind := 1; behind <= 9; behind++ {
		checkNum(t, strings.Repeat("\x80", behind)+"\x00", 0, wrong)
		checkNum(t, strings.Repeat("\xff", behind)+"\x00", 0, wrong)
	}
	for tenth := 2; tenth < 256; tenth++ {
		checkNum(t, strings.Repeat("\xff", 9)+string([]byte{byte(tenth)}), 0, wrong)
		checkNum(t, strings.Repeat("\x80", 9)+string([]byte{byte(tenth)})+"\x01", 0, wrong)
	}
	checkNum(t, strings.Repeat("\x80", 9)+"\x01", 0, impl.NumOut{N: 1 << 62, At: 10})
}

// A number that is read is written by just these bytes, so no two writings of one are taken.
func TestGetNumTakesOneWritingOnly(t *testing.T) {
	for first := range 256 {
		for second := range 256 {
			text := string([]byte{byte(first), byte(second)})
			got := impl.GetNum(text, 0)
			switch {
			case first >= 128 && second >= 128:
				checkNum(t, text, 0, impl.NumOut{Code: impl.ErrShort})
			case first >= 128 && second == 0:
				checkNum(t, text, 0, impl.NumOut{Code: impl.ErrSyntax})
			case got.Code != impl.OK || impl.PutNum(got.N) != text[:got.At]:
				t.Errorf("GetNum(%q, 0) = %+v", text, got)
			}
		}
	}
}

func TestPutTextBytes(t *testing.T) {
	for _, c := range []struct{ text, want string }{
		{"", "\x00"},
		{"ab", "\x04ab"},
		{"\x00\xff", "\x04\x00\xff"},
		{strings.Repeat("x", 63), "\x7e" + strings.Repeat("x", 63)},
		{strings.Repeat("x", 64), "\x80\x01" + strings.Repeat("x", 64)},
		{strings.Repeat("x", impl.MaxBytes), "\x80\x7d" + strings.Repeat("x", impl.MaxBytes)},
		{strings.Repeat("x", impl.MaxBytes+1), ""},
	} {
		if got := impl.PutText(c.text); got != c.want {
			t.Errorf("PutText of %d bytes = %.20q (%d bytes), want %.20q (%d bytes)", len(c.text), got, len(got), c.want, len(c.want))
		}
	}
}

func TestPromise1TextsComeBack(t *testing.T) {
	for _, length := range []int{0, 1, 2, 63, 64, 65, 400, impl.MaxBytes - 5, impl.MaxBytes - 2} {
		text := strings.Repeat("\x80a\x00", length)[:length]
		put := impl.PutText(text)
		checkText(t, put, 0, impl.TextOut{Text: text, At: int64(len(put))})
		if len(put)+3 <= impl.MaxBytes {
			checkText(t, "\x80"+put+"zz", 1, impl.TextOut{Text: text, At: int64(1 + len(put))})
		}
	}
	// One that does not fit in is too great once its length stands ahead of it.
	for _, length := range []int{impl.MaxBytes - 1, impl.MaxBytes} {
		checkText(t, impl.PutText(strings.Repeat("x", length)), 0, impl.TextOut{Code: impl.ErrSize})
	}
}

func TestGetTextPlaces(t *testing.T) {
	form, short := impl.TextOut{Code: impl.ErrForm}, impl.TextOut{Code: impl.ErrShort}
	checkText(t, "\x04ab", -1, form)
	checkText(t, "", math.MinInt64, form)
	checkText(t, "", 0, short)
	checkText(t, "\x04ab", 3, short)
	checkText(t, "\x04ab", 4, short)
	checkText(t, "\x04ab", math.MaxInt64, short)
	checkText(t, "\x04ab\x00", 3, impl.TextOut{At: 4})
}

func TestGetTextWrongLengths(t *testing.T) {
	wrong, short := impl.TextOut{Code: impl.ErrSyntax}, impl.TextOut{Code: impl.ErrShort}
	for _, length := range []int64{-1, -2, math.MinInt64, impl.MaxBytes + 1, math.MaxInt64} {
		checkText(t, impl.PutNum(length)+"ab", 0, wrong)
		checkText(t, impl.PutNum(length), 0, wrong)
	}
	checkText(t, "\x84\x00ab", 0, wrong)
	checkText(t, strings.Repeat("\xff", 9)+"\x02", 0, wrong)
	checkText(t, "\x84", 0, short)
	checkText(t, "\x06ab", 0, short)
	checkText(t, "\x02", 0, short)
	checkText(t, impl.PutNum(impl.MaxBytes), 0, short)
	checkText(t, impl.PutNum(impl.MaxBytes)+strings.Repeat("x", impl.MaxBytes-2), 0, short)
}

func TestGetSizes(t *testing.T) {
	full := strings.Repeat("\x02", impl.MaxBytes)
	checkNum(t, full, impl.MaxBytes-1, impl.NumOut{N: 1, At: impl.MaxBytes})
	checkText(t, full, impl.MaxBytes-2, impl.TextOut{Text: "\x02", At: impl.MaxBytes})
	checkText(t, full, impl.MaxBytes-1, impl.TextOut{Code: impl.ErrShort})
	over := full + "\x02"
	for _, at := range []int64{-1, 0, impl.MaxBytes, impl.MaxBytes + 1} {
		checkNum(t, over, at, impl.NumOut{Code: impl.ErrSize})
		checkText(t, over, at, impl.TextOut{Code: impl.ErrSize})
	}
}

func TestNameRight(t *testing.T) {
	for _, name := range []string{"a", "z", "a_9", "b0", "az_09", "m__", strings.Repeat("a", 20), "a" + strings.Repeat("_", 19)} {
		if !impl.NameRight(name) {
			t.Errorf("NameRight(%q) = false", name)
		}
	}
	for _, name := range []string{"", strings.Repeat("a", 21), "_a", "_", "9", "9a", "A", "aB", "a-b", "a b", " a", "a ", "a\x00", "a\n", "aé", "é", "a`", "a{", "a/", "a:", "`", "{", strings.Repeat("a", impl.MaxBytes), strings.Repeat("a", impl.MaxBytes+1)} {
		if impl.NameRight(name) {
			t.Errorf("NameRight(%.40q) = true", name)
		}
	}
	for b := range 256 {
		letter := b >= 'a' && b <= 'z'
		if got := impl.NameRight(string([]byte{byte(b)})); got != letter {
			t.Errorf("a name of the byte %d alone: %v", b, got)
		}
		if got := impl.NameRight(string([]byte{'a', byte(b)})); got != (letter || b >= '0' && b <= '9' || b == '_') {
			t.Errorf("a name with the byte %d behind: %v", b, got)
		}
	}
}

// randomTexts: texts of all bytes, by a fixed seed.
func randomTexts(many int) []string {
	random := rand.New(rand.NewSource(2))
	list := []string{"", "\x00", "\xff", "123456789", strings.Repeat("\x00", 40), strings.Repeat("\xff", 40)}
	for range many {
		b := make([]byte, random.Intn(100))
		random.Read(b)
		list = append(list, string(b))
	}
	return list
}

func TestCrcKnown(t *testing.T) {
	for text, want := range map[string]int64{"": 0, "123456789": 0xCBF43926, "a": 0xE8B7BE43, "\x00": 0xD202EF8D, "\xff\xff\xff\xff": 0xFFFFFFFF} {
		if got := impl.Crc(text); got != want {
			t.Errorf("Crc(%q) = %X, want %X", text, got, want)
		}
	}
	for _, text := range append(randomTexts(300), strings.Repeat("x", impl.MaxBytes)) {
		if got, want := impl.Crc(text), int64(crc32.ChecksumIEEE([]byte(text))); got != want {
			t.Errorf("Crc(%.40q) = %X, want %X", text, got, want)
		}
	}
	if got := impl.Crc(strings.Repeat("x", impl.MaxBytes+1)); got != 0 {
		t.Errorf("Crc of a byte too many = %X", got)
	}
}

func TestPromise2CrcGoesOn(t *testing.T) {
	for _, text := range randomTexts(100) {
		for cut := 0; cut <= len(text); cut++ {
			if got, want := impl.CrcMore(impl.Crc(text[:cut]), text[cut:]), impl.Crc(text); got != want {
				t.Errorf("CrcMore of %q cut at %d = %X, want %X", text, cut, got, want)
			}
		}
	}
	full := strings.Repeat("\x00\xa5", impl.MaxBytes/2)
	want := int64(crc32.Update(crc32.ChecksumIEEE([]byte(full)), crc32.IEEETable, []byte(full)))
	if got := impl.CrcMore(impl.Crc(full), full); got != want {
		t.Errorf("CrcMore of two full texts = %X, want %X", got, want)
	}
}

func TestCrcMoreEdges(t *testing.T) {
	for _, crc := range []int64{-1, math.MinInt64, 1 << 32, 1<<32 + 5, math.MaxInt64} {
		for _, text := range []string{"", "a"} {
			if got := impl.CrcMore(crc, text); got != 0 {
				t.Errorf("CrcMore(%d, %q) = %X, want 0", crc, text, got)
			}
		}
	}
	for _, crc := range []int64{0, 1, 1 << 31, 1<<32 - 1} {
		if got := impl.CrcMore(crc, ""); got != crc {
			t.Errorf("CrcMore(%X, \"\") = %X", crc, got)
		}
		if got, want := impl.CrcMore(crc, "ab"), int64(crc32.Update(uint32(crc), crc32.IEEETable, []byte("ab"))); got != want {
			t.Errorf("CrcMore(%X, \"ab\") = %X, want %X", crc, got, want)
		}
	}
	if got := impl.CrcMore(7, strings.Repeat("x", impl.MaxBytes+1)); got != 0 {
		t.Errorf("CrcMore of a byte too many = %X", got)
	}
}

func checkUnseal(t *testing.T, text string, want impl.TextOut) {
	t.Helper()
	if got := impl.Unseal(text); got != want {
		t.Errorf("Unseal(%.40q) = %.40q, %d, %d, want %.40q, %d, %d", text, got.Text, got.At, got.Code, want.Text, want.At, want.Code)
	}
}

func TestSealBytes(t *testing.T) {
	for _, c := range []struct{ text, want string }{
		{"", "\x00\x00\x00\x00"},
		{"123456789", "123456789\x26\x39\xf4\xcb"},
		{strings.Repeat("x", impl.MaxBytes-3), ""},
		{strings.Repeat("x", impl.MaxBytes), ""},
		{strings.Repeat("x", impl.MaxBytes+1), ""},
	} {
		if got := impl.Seal(c.text); got != c.want {
			t.Errorf("Seal(%.40q) = %.40q, want %q", c.text, got, c.want)
		}
	}
	full := strings.Repeat("x", impl.MaxBytes-4)
	if got := impl.Seal(full); !strings.HasPrefix(got, full) || len(got) != impl.MaxBytes {
		t.Errorf("Seal of MaxBytes less 4 has %d bytes", len(got))
	}
}

func TestPromise2SealedTextsComeBack(t *testing.T) {
	for _, text := range append(randomTexts(300), strings.Repeat("x", impl.MaxBytes-4)) {
		checkUnseal(t, impl.Seal(text), impl.TextOut{Text: text})
	}
}

func TestPromise2OneByteTurned(t *testing.T) {
	for _, text := range []string{"", "a", "ab", "123456789", "\x00\x00\x00\x00\x00", strings.Repeat("\xff", 8)} {
		sealed := []byte(impl.Seal(text))
		for at := range sealed {
			for turn := 1; turn < 256; turn++ {
				turned := bytes.Clone(sealed)
				turned[at] ^= byte(turn)
				checkUnseal(t, string(turned), impl.TextOut{Code: impl.ErrSum})
			}
		}
	}
}

func TestUnsealWrong(t *testing.T) {
	for _, text := range []string{"", "a", "ab", "abc", "\x00\x00\x00"} {
		checkUnseal(t, text, impl.TextOut{Code: impl.ErrShort})
	}
	checkUnseal(t, "\x00\x00\x00\x00", impl.TextOut{})
	checkUnseal(t, "abcd", impl.TextOut{Code: impl.ErrSum})
	checkUnseal(t, "123456789\xcb\xf4\x39\x26", impl.TextOut{Code: impl.ErrSum})
	checkUnseal(t, impl.Seal("ab")+"x", impl.TextOut{Code: impl.ErrSum})
	checkUnseal(t, strings.Repeat("x", impl.MaxBytes), impl.TextOut{Code: impl.ErrSum})
	over := strings.Repeat("x", impl.MaxBytes-3)
	checkUnseal(t, string(binary.LittleEndian.AppendUint32([]byte(over), crc32.ChecksumIEEE([]byte(over)))), impl.TextOut{Code: impl.ErrSize})
	checkUnseal(t, strings.Repeat("x", impl.MaxBytes+1), impl.TextOut{Code: impl.ErrSize})
}
