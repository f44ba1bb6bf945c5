package tests

import (
	"math"
	"math/rand"
	"slices"
	"strconv"
	"strings"
	"testing"

	"loop.example/g00416/impl"
)

// allSteps is more than any text's steps.
const allSteps = 1000

func headOf(gen int64, side int64, bytes int64) string {
	return impl.Seal(impl.PutNum(gen) + impl.PutNum(side) + impl.PutNum(bytes))
}

// sideOf: the numbers of a side's Sectors.
func sideOf(sectors int, side int) []int {
	half := (sectors - 1) / 2
	var list []int
	for i := range half {
		list = append(list, 1+side*half+i)
	}
	return list
}

func roomOf(sectors int) int {
	return (sectors - 1) / 2 * impl.SectorSize
}

// textOf has no two sectors alike, so that a sector that is lost or at another place is seen.
func textOf(bytes int, salt string) string {
	var b strings.Builder
	for i := 0; b.Len() < bytes; i++ {
		b.WriteString(salt + strconv.Itoa(i) + "\x00\xff.")
	}
	return b.String()[:bytes]
}

// laid: the Disk with the text in its side, by the chapter's words.
func laid(d impl.Disk, side int, text string) impl.Disk {
	other := cloneDisk(d)
	for i := 0; i*impl.SectorSize < len(text); i++ {
		other.Sectors[sideOf(len(d.Sectors), side)[i]] = text[i*impl.SectorSize : min((i+1)*impl.SectorSize, len(text))]
	}
	return other
}

// areaOf: an area as it stands flushed, other Sectors s1, s2 ..
func areaOf(sectors int, gen int64, side int, text string) impl.Disk {
	return laid(withSector(diskOf(sectors, 0), 0, headOf(gen, int64(side), int64(len(text)))), side, text)
}

func crowded(d impl.Disk, at int64, pending int) impl.Disk {
	more := cloneDisk(d)
	for i := range pending {
		more.Pending = append(more.Pending, impl.Pending{At: at, Data: "c" + strconv.Itoa(i)})
	}
	return more
}

func checkArea(t *testing.T, what string, got impl.AreaOut, want impl.AreaOut) {
	t.Helper()
	if got.Code != want.Code || got.Text != want.Text || got.Gen != want.Gen || !sameDisk(got.Disk, want.Disk) {
		t.Errorf("%s: got %#v, want %#v", what, got, want)
	}
}

func areaFault(code int64) impl.AreaOut {
	return impl.AreaOut{Code: code}
}

func checkReads(t *testing.T, what string, d impl.Disk, text string, gen int64) {
	t.Helper()
	checkArea(t, what, impl.AreaRead(d), impl.AreaOut{Disk: d, Text: text, Gen: gen})
}

func TestAreaRoom(t *testing.T) {
	for sectors, want := range map[int]int64{1: 0, 2: 0, 3: 64, 4: 64, 5: 128, 6: 128, 7: 192, 63: 31 * 64, impl.MaxSectors: 31 * 64} {
		for _, pending := range []int{0, 1, mostPending} {
			if got := impl.AreaRoom(diskOf(sectors, pending)); got != want {
				t.Errorf("AreaRoom of %d sectors = %d, want %d", sectors, got, want)
			}
		}
	}
	for name, d := range wrongDisks() {
		if got := impl.AreaRoom(d); got != 0 {
			t.Errorf("AreaRoom of %s = %d", name, got)
		}
	}
}

func TestAreaFormat(t *testing.T) {
	head := headOf(0, 0, 0)
	if head != impl.Seal("\x00\x00\x00") {
		t.Fatalf("a head is %q", head)
	}
	for sectors := 1; sectors <= impl.MaxSectors; sectors++ {
		want := impl.AreaOut{Disk: withSector(diskOf(sectors, 0), 0, head)}
		if sectors < 3 {
			want = areaFault(impl.ErrFull)
		}
		checkArea(t, "AreaFormat of "+strconv.Itoa(sectors), impl.AreaFormat(diskOf(sectors, 0)), want)
	}
	pending := diskOf(3, 5)
	checkArea(t, "AreaFormat with pending", impl.AreaFormat(pending), impl.AreaOut{Disk: impl.Disk{Sectors: []string{head, "p4", "p2"}}})
	checkArea(t, "AreaFormat with 199 pending", impl.AreaFormat(diskOf(3, mostPending-1)), impl.AreaOut{Disk: impl.Disk{Sectors: []string{head, "p196", "p197"}}})
	checkArea(t, "AreaFormat of an area", impl.AreaFormat(areaOf(5, 7, 1, "abc")), impl.AreaOut{Disk: withSector(areaOf(5, 7, 1, "abc"), 0, head)})
	checkReads(t, "AreaRead of what was formatted", impl.AreaFormat(areaOf(5, 7, 1, "abc")).Disk, "", 0)
}

func TestAreaFormatFaults(t *testing.T) {
	for _, sectors := range []int{3, 4, 5, impl.MaxSectors} {
		checkArea(t, "AreaFormat with 200 pending", impl.AreaFormat(diskOf(sectors, mostPending)), areaFault(impl.ErrFull))
	}
	checkArea(t, "AreaFormat of 2 with 200 pending", impl.AreaFormat(diskOf(2, mostPending)), areaFault(impl.ErrFull))
	for name, d := range wrongDisks() {
		checkArea(t, "AreaFormat of "+name, impl.AreaFormat(d), areaFault(impl.ErrForm))
	}
	checkArea(t, "form, then too few", impl.AreaFormat(withPending(diskOf(2, 0), 2, "a")), areaFault(impl.ErrForm))
}

func TestAreaReadTexts(t *testing.T) {
	for sectors := 1; sectors <= impl.MaxSectors; sectors++ {
		room := roomOf(sectors)
		for _, bytes := range []int{0, 1, 2, 63, 64, 65, 127, 128, 129, room - 1, room} {
			if bytes < 0 || bytes > room {
				continue
			}
			for side := range 2 {
				text := textOf(bytes, strconv.Itoa(sectors))
				checkReads(t, "AreaRead", areaOf(sectors, 5, side, text), text, 5)
			}
		}
	}
	for _, gen := range []int64{0, 1, 63, 64, impl.MaxTime - 1, impl.MaxTime, impl.MaxTime + 1, 1 << 40, math.MaxInt64} {
		checkReads(t, "AreaRead of a number", areaOf(4, gen, 1, "a"), "a", gen)
	}
}

// badSectors: what may stand in Sector 0 and is no head (of a disk with room for 128 bytes), with the code that tells it.
func badSectors() map[string]struct {
	text string
	code int64
} {
	type bad = struct {
		text string
		code int64
	}
	num := impl.PutNum
	turned := []byte(headOf(3, 0, 2))
	turned[0] ^= 1
	sealTurned := []byte(headOf(3, 0, 2))
	sealTurned[len(sealTurned)-1] ^= 128
	return map[string]bad{
		"empty":                        {"", impl.ErrShort},
		"three bytes":                  {"abc", impl.ErrShort},
		"four bytes":                   {"abcd", impl.ErrSum},
		"no seal":                      {num(3) + num(0) + num(2), impl.ErrShort},
		"a byte turned":                {string(turned), impl.ErrSum},
		"the seal turned":              {string(sealTurned), impl.ErrSum},
		"a byte behind the seal":       {headOf(3, 0, 2) + "\x00", impl.ErrSum},
		"a byte less":                  {headOf(3, 0, 2)[:6], impl.ErrSum},
		"a full sector":                {strings.Repeat("x", impl.SectorSize), impl.ErrSum},
		"the seal of nothing":          {impl.Seal(""), impl.ErrSyntax},
		"one number":                   {impl.Seal(num(3)), impl.ErrSyntax},
		"two numbers":                  {impl.Seal(num(3) + num(0)), impl.ErrSyntax},
		"four numbers":                 {impl.Seal(num(3) + num(0) + num(2) + num(0)), impl.ErrSyntax},
		"bytes up to the sector's end": {impl.Seal(num(3) + num(0) + num(2) + strings.Repeat("\x00", 57)), impl.ErrSyntax},
		"a first number cut off":       {impl.Seal("\x80"), impl.ErrSyntax},
		"a second number cut off":      {impl.Seal(num(3) + "\x80"), impl.ErrSyntax},
		"a third number cut off":       {impl.Seal(num(3) + num(0) + "\x84"), impl.ErrSyntax},
		"a first number too long":      {impl.Seal("\x86\x00" + num(0) + num(2)), impl.ErrSyntax},
		"a second number too long":     {impl.Seal(num(3) + "\x80\x00" + num(2)), impl.ErrSyntax},
		"a third number too long":      {impl.Seal(num(3) + num(0) + "\x84\x00"), impl.ErrSyntax},
		"a tenth byte above 1":         {impl.Seal(strings.Repeat("\xff", 9) + "\x02" + num(0) + num(2)), impl.ErrSyntax},
		"a number below 0":             {headOf(-1, 0, 2), impl.ErrSyntax},
		"the least number":             {headOf(math.MinInt64, 0, 2), impl.ErrSyntax},
		"a side below 0":               {headOf(3, -1, 2), impl.ErrSyntax},
		"the side 2":                   {headOf(3, 2, 2), impl.ErrSyntax},
		"the least side":               {headOf(3, math.MinInt64, 0), impl.ErrSyntax},
		"the greatest side":            {headOf(3, math.MaxInt64, 0), impl.ErrSyntax},
		"bytes below 0":                {headOf(3, 0, -1), impl.ErrSyntax},
		"the least bytes":              {headOf(3, 1, math.MinInt64), impl.ErrSyntax},
		"a byte above the room":        {headOf(3, 0, 129), impl.ErrSyntax},
		"a byte above, side 1":         {headOf(3, 1, 129), impl.ErrSyntax},
		"the greatest bytes":           {headOf(3, 1, math.MaxInt64), impl.ErrSyntax},
	}
}

func TestAreaBadHeads(t *testing.T) {
	full := strings.Repeat("y", impl.SectorSize)
	for _, sectors := range []int{5, 6} {
		d := diskOf(sectors, 0)
		for i := 1; i < sectors; i++ {
			d.Sectors[i] = full
		}
		for name, bad := range badSectors() {
			flushed, pending := withSector(d, 0, bad.text), withPending(withSector(d, 0, headOf(3, 0, 2)), 0, bad.text)
			for _, wrong := range []impl.Disk{flushed, pending} {
				checkArea(t, "AreaRead of "+name, impl.AreaRead(wrong), areaFault(bad.code))
				for _, steps := range []int64{-1, 0, 1, allSteps} {
					checkArea(t, "AreaPut to "+name, impl.AreaPut(wrong, "abc", steps), areaFault(bad.code))
				}
				checkArea(t, "AreaPut of too much to "+name, impl.AreaPut(wrong, textOf(129, "a"), allSteps), areaFault(bad.code))
			}
			checkReads(t, "AreaRead past "+name, withPending(flushed, 0, headOf(9, 1, 65)), full+"y", 9)
		}
	}
}

func TestAreaReadFewBytes(t *testing.T) {
	full := strings.Repeat("y", impl.SectorSize)
	d := impl.Disk{Sectors: []string{"", full, "abc", "def", "ghi"}}
	for _, c := range []struct {
		side  int64
		bytes int64
		want  impl.AreaOut
	}{
		{0, 0, impl.AreaOut{Text: ""}},
		{0, 64, impl.AreaOut{Text: full}},
		{0, 67, impl.AreaOut{Text: full + "abc"}},
		{0, 68, areaFault(impl.ErrSum)},
		{0, 128, areaFault(impl.ErrSum)},
		{0, 129, areaFault(impl.ErrSyntax)},
		{1, 0, impl.AreaOut{Text: ""}},
		{1, 2, impl.AreaOut{Text: "de"}},
		{1, 3, impl.AreaOut{Text: "def"}},
		{1, 4, areaFault(impl.ErrSum)},
		{1, 6, areaFault(impl.ErrSum)},
		{1, 7, areaFault(impl.ErrSum)},
		{1, 128, areaFault(impl.ErrSum)},
		{1, 129, areaFault(impl.ErrSyntax)},
	} {
		given := withSector(d, 0, headOf(2, c.side, c.bytes))
		want := c.want
		if want.Code == impl.OK {
			want.Disk, want.Gen = given, 2
		}
		what := "AreaRead of " + strconv.FormatInt(c.bytes, 10) + " bytes of the side " + strconv.FormatInt(c.side, 10)
		checkArea(t, what, impl.AreaRead(given), want)
		if c.want.Code != impl.OK {
			checkArea(t, "AreaPut, not "+what, impl.AreaPut(given, "a", allSteps), want)
		}
	}
}

// sharesOf: how many bytes of a text stand in each Sector of a side, by the chapter's words: each full but the last one.
func sharesOf(sectors int, bytes int) []int {
	var list []int
	for range (sectors - 1) / 2 {
		share := min(bytes, impl.SectorSize)
		list = append(list, share)
		bytes -= share
	}
	return list
}

// resized has a Sector of a side cut, or filled up, to so many bytes.
func resized(d impl.Disk, side int, nth int, bytes int) impl.Disk {
	at := sideOf(len(d.Sectors), side)[nth]
	return withSector(d, at, (d.Sectors[at] + strings.Repeat("z", impl.SectorSize))[:bytes])
}

// filled is an area whose Sectors are all full, so that one that is cut short has bytes enough behind it.
func filled(sectors int, gen int64, side int, text string) impl.Disk {
	d := areaOf(sectors, gen, side, text)
	for side := range 2 {
		for nth := range sideOf(sectors, side) {
			d = resized(d, side, nth, impl.SectorSize)
		}
	}
	return d
}

// atPending: the same to read, but with the Sector's text pending over another one.
func atPending(d impl.Disk, at int, other string) impl.Disk {
	return withPending(withSector(d, at, other), int64(at), d.Sectors[at])
}

func checkShort(t *testing.T, what string, d impl.Disk) {
	t.Helper()
	checkArea(t, "AreaRead of "+what, impl.AreaRead(d), areaFault(impl.ErrSum))
	for _, steps := range []int64{-1, 0, 1, allSteps} {
		checkArea(t, "AreaPut to "+what, impl.AreaPut(d, "new", steps), areaFault(impl.ErrSum))
	}
}

// checkSizes cuts each Sector of the text's side in turn: what counts is whether it has its own share of the text.
func checkSizes(t *testing.T, sectors int, side int, text string) {
	t.Helper()
	whole := filled(sectors, 4, side, text)
	for nth, share := range sharesOf(sectors, len(text)) {
		for size := range impl.SectorSize + 1 {
			d := resized(whole, side, nth, size)
			what := strconv.Itoa(len(text)) + " bytes, Sector " + strconv.Itoa(nth) + " of the side " + strconv.Itoa(side) + " of " + strconv.Itoa(size)
			for _, given := range []impl.Disk{d, atPending(d, sideOf(sectors, side)[nth], "y"), atPending(d, 0, "no head"), atPending(d, 0, headOf(3, 0, 0))} {
				if size < share {
					checkShort(t, what, given)
				} else {
					checkReads(t, what, given, text, 4)
				}
			}
		}
	}
}

func TestAreaReadShortSector(t *testing.T) {
	for _, sectors := range []int{3, 6, 9} {
		for _, bytes := range []int{0, 1, 7, 63, 64, 65, 127, 128, 129, 191, 192, 193, 255, 256} {
			for side := range 2 {
				if bytes <= roomOf(sectors) {
					checkSizes(t, sectors, side, textOf(bytes, "t"))
				}
			}
		}
	}
}

// TestAreaReadElderLeft: what an elder, longer text left on a side is of no shorter one.
func TestAreaReadElderLeft(t *testing.T) {
	elder, text := textOf(128, "e"), textOf(7, "t")
	d := areaOf(6, 2, 0, elder)
	d = impl.AreaPut(d, "between", allSteps).Disk
	d = impl.AreaPut(d, text, allSteps).Disk
	checkReads(t, "ahead of an elder text's Sector", d, text, 4)
	if d.Sectors[2] != elder[64:] {
		t.Fatalf("nothing is left of the elder text: %q", d.Sectors)
	}
	checkShort(t, "a text that ends in an elder one's Sector", withPending(d, 1, text[:6]))
	checkShort(t, "a text that ends in an elder one's Sector, flushed", withSector(d, 1, text[:6]))
}

func TestAreaReadPending(t *testing.T) {
	text := textOf(70, "t")
	d := areaOf(5, 4, 0, text)
	checkReads(t, "another head", withPending(d, 0, headOf(5, 0, 3)), text[:3], 5)
	checkReads(t, "the last head", withPending(withPending(d, 0, ""), 0, headOf(6, 1, 2)), "s3", 6)
	checkReads(t, "a sector of the side", withPending(d, 2, "123456"), text[:64]+"123456", 4)
	checkReads(t, "a longer one", withPending(d, 2, "1234567"), text[:64]+"123456", 4)
	checkReads(t, "a sector of the other side", withPending(withPending(d, 3, ""), 4, "x"), text, 4)
	checkArea(t, "a shorter one", impl.AreaRead(withPending(d, 2, "12345")), areaFault(impl.ErrSum))
	checkArea(t, "the last one counts", impl.AreaRead(withPending(withPending(d, 2, "123456"), 2, "")), areaFault(impl.ErrSum))
	checkReads(t, "200 pending", crowded(d, 4, mostPending), text, 4)
	checkArea(t, "201 pending", impl.AreaRead(crowded(d, 4, mostPending+1)), areaFault(impl.ErrForm))
}

func TestAreaReadFaults(t *testing.T) {
	for name, d := range wrongDisks() {
		checkArea(t, "AreaRead of "+name, impl.AreaRead(d), areaFault(impl.ErrForm))
	}
	for sectors := 1; sectors <= impl.MaxSectors; sectors++ {
		checkArea(t, "AreaRead of a new disk", impl.AreaRead(impl.DiskNew(int64(sectors))), areaFault(impl.ErrShort))
	}
	checkArea(t, "form, then the head", impl.AreaRead(withPending(areaOf(3, 1, 0, "a"), 3, "b")), areaFault(impl.ErrForm))
	small := withSector(diskOf(2, 0), 0, headOf(1, 0, 1))
	checkArea(t, "AreaRead of 2 with a byte", impl.AreaRead(small), areaFault(impl.ErrSyntax))
}

// stepsOf: each Disk on the way of a put, by the chapter's words, from none of the steps to all of them.
func stepsOf(d impl.Disk, gen int64, side int, text string) []impl.Disk {
	list := []impl.Disk{d}
	now := cloneDisk(d)
	numbers := sideOf(len(d.Sectors), side)
	for i := 0; i*impl.SectorSize < len(text); i++ {
		now = withPending(now, int64(numbers[i]), text[i*impl.SectorSize:min((i+1)*impl.SectorSize, len(text))])
		list = append(list, now)
	}
	now = flushedOf(now)
	list = append(list, now)
	now = withPending(now, 0, headOf(gen, int64(side), int64(len(text))))
	list = append(list, now)
	return append(list, flushedOf(now))
}

func flushedOf(d impl.Disk) impl.Disk {
	flushed := impl.Disk{Sectors: slices.Clone(d.Sectors)}
	for _, p := range d.Pending {
		flushed.Sectors[p.At] = p.Data
	}
	return flushed
}

func checkSteps(t *testing.T, d impl.Disk, gen int64, side int, text string) {
	t.Helper()
	list := stepsOf(d, gen, side, text)
	last := len(list) - 1
	for steps, want := range list {
		checkArea(t, "AreaPut of "+strconv.Itoa(steps)+" steps", impl.AreaPut(d, text, int64(steps)), impl.AreaOut{Disk: want})
	}
	for _, steps := range []int64{-1, -400, math.MinInt64} {
		checkArea(t, "AreaPut of no step", impl.AreaPut(d, text, steps), impl.AreaOut{Disk: d})
	}
	for _, steps := range []int64{int64(last) + 1, allSteps, 1 << 32, math.MaxInt64} {
		checkArea(t, "AreaPut of all steps", impl.AreaPut(d, text, steps), impl.AreaOut{Disk: list[last]})
	}
}

func TestAreaPutSteps(t *testing.T) {
	for _, sectors := range []int{1, 2, 3, 4, 5, 6, 7, 63, impl.MaxSectors} {
		room := roomOf(sectors)
		for _, bytes := range []int{0, 1, 63, 64, 65, 128, 129, room - 64, room - 1, room} {
			if bytes < 0 || bytes > room {
				continue
			}
			for side := range 2 {
				checkSteps(t, areaOf(sectors, 8, side, textOf(min(room, 70), "o")), 9, 1-side, textOf(bytes, "n"))
			}
		}
	}
	checkSteps(t, withPending(withPending(areaOf(5, 8, 0, "old"), 4, "late"), 1, "odd"), 9, 1, textOf(100, "n"))
	checkSteps(t, withPending(areaOf(5, 8, 0, "old"), 0, headOf(20, 1, 2)), 21, 0, textOf(100, "n"))
}

func TestAreaPutNumbers(t *testing.T) {
	d := areaOf(5, impl.MaxTime-1, 1, "old")
	checkSteps(t, d, impl.MaxTime, 0, textOf(65, "n"))
	last := impl.AreaPut(d, "new", allSteps).Disk
	checkReads(t, "the last number", last, "new", impl.MaxTime)
	for _, gen := range []int64{impl.MaxTime, impl.MaxTime + 1, math.MaxInt64} {
		for _, steps := range []int64{-1, 0, 1, allSteps} {
			checkArea(t, "AreaPut behind the last number", impl.AreaPut(areaOf(5, gen, 1, "old"), "", steps), areaFault(impl.ErrFull))
		}
	}
	checkSteps(t, areaOf(5, 0, 0, ""), 1, 1, "")
}

func TestAreaPutTooMuch(t *testing.T) {
	for _, sectors := range []int{1, 2, 3, 4, 5, impl.MaxSectors} {
		room := roomOf(sectors)
		d := areaOf(sectors, 3, 0, "")
		for _, bytes := range []int{room + 1, room + 64, impl.MaxBytes} {
			for _, steps := range []int64{-1, 0, 1, allSteps} {
				checkArea(t, "AreaPut of more than the room", impl.AreaPut(d, textOf(bytes, "n"), steps), areaFault(impl.ErrFull))
			}
		}
		checkArea(t, "AreaPut of more than a text", impl.AreaPut(d, textOf(impl.MaxBytes+1, "n"), allSteps), areaFault(impl.ErrSize))
	}
}

func TestAreaPutCrowded(t *testing.T) {
	text := textOf(10*impl.SectorSize, "n")
	for _, pending := range []int{189, 190, 191, 199, mostPending} {
		d := crowded(areaOf(23, 3, 0, "old"), 5, pending)
		list := stepsOf(d, 4, 1, text)
		for steps := range len(list) + 2 {
			want := impl.AreaOut{Disk: list[min(steps, len(list)-1)]}
			if pending+min(steps, 10) > mostPending {
				want = areaFault(impl.ErrFull)
			}
			checkArea(t, "AreaPut behind "+strconv.Itoa(pending)+" pending", impl.AreaPut(d, text, int64(steps)), want)
		}
		checkArea(t, "no step behind many pending", impl.AreaPut(d, text, -5), impl.AreaOut{Disk: d})
	}
	full := crowded(areaOf(5, 3, 0, "old"), 4, mostPending)
	checkArea(t, "the empty text behind 200 pending", impl.AreaPut(full, "", allSteps), impl.AreaOut{Disk: withSector(flushedOf(full), 0, headOf(4, 1, 0))})
}

func TestAreaPutFaultOrder(t *testing.T) {
	huge, more := textOf(impl.MaxBytes+1, "n"), textOf(129, "n")
	short := withSector(areaOf(5, impl.MaxTime, 0, textOf(70, "o")), 2, "")
	shortAhead := resized(filled(5, impl.MaxTime, 0, textOf(70, "o")), 0, 0, 63)
	for _, c := range []struct {
		what string
		d    impl.Disk
		text string
		code int64
	}{
		{"size, form", diskOf(65, 0), huge, impl.ErrSize},
		{"size, no head", diskOf(5, 0), huge, impl.ErrSize},
		{"size, too much", areaOf(5, impl.MaxTime, 0, ""), huge, impl.ErrSize},
		{"form, no head", diskOf(65, 0), "a", impl.ErrForm},
		{"form, a head", withPending(areaOf(5, 1, 0, "a"), 5, ""), more, impl.ErrForm},
		{"short, too much", withSector(diskOf(5, 0), 0, "abc"), more, impl.ErrShort},
		{"sum, too much", withSector(diskOf(5, 0), 0, "abcd"), more, impl.ErrSum},
		{"no head, too much", withSector(diskOf(5, 0), 0, headOf(impl.MaxTime, 2, 0)), more, impl.ErrSyntax},
		{"few bytes, too much, last number", short, more, impl.ErrSum},
		{"size, a short Sector ahead", shortAhead, huge, impl.ErrSize},
		{"form, a short Sector ahead", withPending(shortAhead, 5, ""), more, impl.ErrForm},
		{"a short Sector ahead, too much, last number", shortAhead, more, impl.ErrSum},
		{"too much, pending full", crowded(areaOf(5, 1, 0, ""), 1, mostPending), more, impl.ErrFull},
		{"no head, pending full", crowded(diskOf(5, 0), 1, mostPending), "a", impl.ErrShort},
	} {
		for _, steps := range []int64{-1, 0, 1, allSteps} {
			checkArea(t, c.what, impl.AreaPut(c.d, c.text, steps), areaFault(c.code))
		}
	}
	for name, d := range wrongDisks() {
		checkArea(t, "AreaPut to "+name, impl.AreaPut(d, "a", allSteps), areaFault(impl.ErrForm))
		checkArea(t, "AreaPut of too much to "+name, impl.AreaPut(d, more, 0), areaFault(impl.ErrForm))
		checkArea(t, "AreaPut of more than a text to "+name, impl.AreaPut(d, huge, 0), areaFault(impl.ErrSize))
	}
}

func areaCalls(d impl.Disk) map[string]impl.Disk {
	text := strings.Clone(textOf(100, "n"))
	calls := map[string]impl.Disk{
		"AreaFormat": impl.AreaFormat(d).Disk,
		"AreaRead":   impl.AreaRead(d).Disk,
	}
	for steps := range int64(7) {
		calls["AreaPut of "+strconv.FormatInt(steps, 10)] = impl.AreaPut(d, text, steps).Disk
	}
	return calls
}

func TestAreaApart(t *testing.T) {
	areas := map[string]impl.Disk{
		"an area":            areaOf(5, 3, 0, textOf(70, "o")),
		"an area, pending":   withPending(withPending(areaOf(5, 3, 1, textOf(70, "o")), 3, "late"), 1, "odd"),
		"an area of most":    areaOf(impl.MaxSectors, 3, 1, textOf(1000, "o")),
		"no area":            diskOf(5, 3),
		"an area of no room": areaOf(2, 3, 1, ""),
		"no disk":            diskOf(65, 1),
	}
	for name, d := range areas {
		checkApart(t, name, d, areaCalls)
	}
}

func textsOf(d impl.Disk) []string {
	list := slices.Clone(d.Sectors)
	for _, p := range d.Pending {
		list = append(list, p.Data)
	}
	return list
}

func TestAreaTextsAreNew(t *testing.T) {
	d := withPending(areaOf(5, 3, 0, "a sector"), 2, strings.Clone("a pending one"))
	d.Sectors = cloneTexts(d.Sectors)
	text := strings.Clone("a text in one sector")
	given := append(textsOf(d), text)
	read := impl.AreaRead(d)
	told := append(textsOf(read.Disk), read.Text)
	told = append(told, textsOf(impl.AreaFormat(d).Disk)...)
	for steps := range int64(5) {
		told = append(told, textsOf(impl.AreaPut(d, text, steps).Disk)...)
	}
	for _, text := range told {
		for _, other := range given {
			if sharesText(text, other) {
				t.Errorf("%q shares memory with an argument", text)
			}
		}
	}
	if sharesText(read.Text, read.Disk.Sectors[1]) {
		t.Errorf("AreaRead tells a text that its Disk shares")
	}
}

func cloneTexts(list []string) []string {
	var texts []string
	for _, text := range list {
		texts = append(texts, strings.Clone(text))
	}
	return texts
}

func TestPromise4PutIsRead(t *testing.T) {
	random := rand.New(rand.NewSource(6))
	for _, sectors := range []int{3, 4, 5, 8, 17, impl.MaxSectors} {
		room := roomOf(sectors)
		d := impl.AreaFormat(diskOf(sectors, 2)).Disk
		checkReads(t, "promise 4, formatted", d, "", 0)
		for gen := range int64(60) {
			bytes := random.Intn(room + 1)
			if gen%7 == 0 {
				bytes = []int{0, room}[gen%2]
			}
			text := textOf(bytes, strconv.FormatInt(gen, 36))
			got := impl.AreaPut(d, text, allSteps)
			if got.Code != impl.OK || len(got.Disk.Pending) != 0 {
				t.Fatalf("promise 4, put: %#v", got)
			}
			d = got.Disk
			checkReads(t, "promise 4", d, text, gen+1)
			checkReads(t, "promise 4, behind a crash", impl.DiskCrash(d, randomKeep(random)), text, gen+1)
			// What is pending on the other side is of no text.
			d = withPending(d, int64(sideOf(sectors, int(gen)%2)[0]), "stray")
		}
	}
}

// keepsOf: each choice of what is kept; of many pending, each one alone, each prefix, and some at random.
func keepsOf(random *rand.Rand, pending int) [][]int64 {
	var list [][]int64
	if pending <= 6 {
		for bits := range 1 << pending {
			keep := make([]int64, pending)
			for i := range keep {
				keep[i] = int64(bits >> i & 1)
			}
			list = append(list, keep)
		}
		return list
	}
	for i := range pending + 1 {
		prefix, alone := make([]int64, pending), make([]int64, pending+1)
		for j := range i {
			prefix[j] = 1
		}
		alone[i] = 1
		list = append(list, prefix, alone, randomKeep(random))
	}
	return list
}

func TestPromise5WhereverThePowerGoes(t *testing.T) {
	random := rand.New(rand.NewSource(7))
	for _, sectors := range []int{3, 4, 5, 6, 9, 13, impl.MaxSectors} {
		room := roomOf(sectors)
		for round := range 8 {
			old, text := textOf(random.Intn(room+1), "o"+strconv.Itoa(round)), textOf([]int{0, room, 64, random.Intn(room + 1)}[round%4], "n"+strconv.Itoa(round))
			gen, side := int64(random.Intn(1000)), round%2
			d := areaOf(sectors, gen, side, old)
			all := (len(text)+impl.SectorSize-1)/impl.SectorSize + 3
			for steps := range all + 2 {
				torn := impl.AreaPut(d, text, int64(steps))
				if torn.Code != impl.OK {
					t.Fatalf("promise 5, %d steps: code %d", steps, torn.Code)
				}
				for _, keep := range keepsOf(random, len(torn.Disk.Pending)) {
					checkTorn(t, torn.Disk, keep, steps >= all, impl.AreaOut{Text: old, Gen: gen}, impl.AreaOut{Text: text, Gen: gen + 1})
				}
			}
		}
	}
}

// checkTorn: nothing but the head decides, so the new one is read where it was flushed, or kept.
func checkTorn(t *testing.T, torn impl.Disk, keep []int64, done bool, old impl.AreaOut, put impl.AreaOut) {
	t.Helper()
	crashed := impl.DiskCrash(torn, keep)
	want := old
	headKept := len(torn.Pending) == 1 && torn.Pending[0].At == 0 && len(keep) > 0 && keep[0] > 0
	if done || headKept {
		want = put
	}
	checkReads(t, "promise 5", crashed, want.Text, want.Gen)
	again := impl.AreaPut(crashed, "again", allSteps)
	checkReads(t, "promise 5, put again", again.Disk, "again", want.Gen+1)
}
