package tests

import (
	"math"
	"math/rand"
	"slices"
	"strconv"
	"strings"
	"testing"
	"unsafe"

	"loop.example/g00416/impl"
)

const mostPending = 200

// sameDisk takes an empty list and none as the same.
func sameDisk(a impl.Disk, b impl.Disk) bool {
	return slices.Equal(a.Sectors, b.Sectors) && slices.Equal(a.Pending, b.Pending)
}

func zeroDisk(d impl.Disk) bool {
	return len(d.Sectors) == 0 && len(d.Pending) == 0
}

func cloneDisk(d impl.Disk) impl.Disk {
	return impl.Disk{Sectors: slices.Clone(d.Sectors), Pending: slices.Clone(d.Pending)}
}

// diskOf has so many sectors, s0, s1 .., and pending writes going round them, p0, p1 ..
func diskOf(sectors int, pending int) impl.Disk {
	var d impl.Disk
	for i := range sectors {
		d.Sectors = append(d.Sectors, "s"+strconv.Itoa(i))
	}
	for i := range pending {
		d.Pending = append(d.Pending, impl.Pending{At: int64(i % sectors), Data: "p" + strconv.Itoa(i)})
	}
	return d
}

func withPending(d impl.Disk, at int64, data string) impl.Disk {
	more := cloneDisk(d)
	more.Pending = append(more.Pending, impl.Pending{At: at, Data: data})
	return more
}

func withSector(d impl.Disk, at int, text string) impl.Disk {
	other := cloneDisk(d)
	other.Sectors[at] = text
	return other
}

func checkDisk(t *testing.T, what string, got impl.Disk, want impl.Disk) {
	t.Helper()
	if !sameDisk(got, want) {
		t.Errorf("%s: got %#v, want %#v", what, got, want)
	}
}

func checkDiskOut(t *testing.T, what string, got impl.DiskOut, want impl.DiskOut) {
	t.Helper()
	if got.Code != want.Code || got.Data != want.Data || !sameDisk(got.Disk, want.Disk) {
		t.Errorf("%s: got %#v, want %#v", what, got, want)
	}
}

func diskFault(code int64) impl.DiskOut {
	return impl.DiskOut{Code: code}
}

// rightDisks and wrongDisks stand at the edges that chapter 3 names.
func rightDisks() map[string]impl.Disk {
	full := strings.Repeat("x", impl.SectorSize)
	return map[string]impl.Disk{
		"one sector":                diskOf(1, 0),
		"one sector, pending":       diskOf(1, 3),
		"most sectors":              diskOf(impl.MaxSectors, 0),
		"full first sector":         withSector(diskOf(3, 0), 0, full),
		"full last sector":          withSector(diskOf(impl.MaxSectors, 0), impl.MaxSectors-1, full),
		"most pending":              diskOf(3, mostPending),
		"pending at the first":      withPending(diskOf(3, 0), 0, ""),
		"pending at the last":       withPending(diskOf(3, 2), 2, "a"),
		"pending at the last of 64": withPending(diskOf(impl.MaxSectors, 0), impl.MaxSectors-1, "a"),
		"pending full":              withPending(diskOf(3, 2), 1, full),
		"bytes of any kind":         withPending(withSector(diskOf(2, 0), 0, "\x00\xff\xfe"), 1, "\xff\x00"),
	}
}

func wrongDisks() map[string]impl.Disk {
	long := strings.Repeat("x", impl.SectorSize+1)
	return map[string]impl.Disk{
		"no sector":                   {},
		"no sector, empty lists":      {Sectors: []string{}, Pending: []impl.Pending{}},
		"no sector, pending":          {Pending: []impl.Pending{{At: 0, Data: "a"}}},
		"a sector too many":           diskOf(impl.MaxSectors+1, 0),
		"a list of sectors too long":  diskOf(impl.MaxList+1, 0),
		"a first sector too long":     withSector(diskOf(3, 1), 0, long),
		"a last sector too long":      withSector(diskOf(3, 1), 2, long),
		"a pending too many":          diskOf(3, mostPending+1),
		"a list of pending too long":  diskOf(3, impl.MaxList+1),
		"pending below 0":             withPending(diskOf(3, 1), -1, "a"),
		"pending at the least":        withPending(diskOf(3, 1), math.MinInt64, "a"),
		"pending behind the last":     withPending(diskOf(3, 1), 3, "a"),
		"pending behind the 64th":     withPending(diskOf(impl.MaxSectors, 0), impl.MaxSectors, "a"),
		"pending behind the only one": withPending(diskOf(1, 0), 1, ""),
		"pending at the greatest":     withPending(diskOf(3, 1), math.MaxInt64, "a"),
		"pending too long":            withPending(diskOf(3, 1), 1, long),
		"pending too long, the first": {Sectors: []string{"", ""}, Pending: []impl.Pending{{At: 0, Data: long}, {At: 1, Data: "b"}}},
	}
}

func TestDiskRight(t *testing.T) {
	for name, d := range rightDisks() {
		if !impl.DiskRight(d) {
			t.Errorf("%s: not right", name)
		}
	}
	for name, d := range wrongDisks() {
		if impl.DiskRight(d) {
			t.Errorf("%s: right", name)
		}
	}
}

func TestDiskNew(t *testing.T) {
	for sectors := int64(1); sectors <= impl.MaxSectors; sectors++ {
		d := impl.DiskNew(sectors)
		checkDisk(t, "DiskNew", d, impl.Disk{Sectors: make([]string, sectors)})
		if !impl.DiskRight(d) {
			t.Errorf("DiskNew(%d) is not right", sectors)
		}
	}
	for _, sectors := range []int64{0, -1, impl.MaxSectors + 1, 1 << 32, 1<<32 + 1, math.MinInt64, math.MaxInt64} {
		if d := impl.DiskNew(sectors); !zeroDisk(d) {
			t.Errorf("DiskNew(%d) = %+v", sectors, d)
		}
	}
}

func TestDiskReadData(t *testing.T) {
	d := diskOf(4, 0)
	d.Pending = []impl.Pending{{At: 1, Data: "a"}, {At: 3, Data: "b"}, {At: 3, Data: "c"}, {At: 1, Data: "d"}, {At: 3, Data: ""}, {At: 2, Data: "e"}}
	for at, want := range []string{"s0", "d", "e", ""} {
		checkDiskOut(t, "DiskRead at "+strconv.Itoa(at), impl.DiskRead(d, int64(at)), impl.DiskOut{Disk: d, Data: want})
	}
	full := strings.Repeat("x", impl.SectorSize)
	last := withSector(impl.DiskNew(impl.MaxSectors), impl.MaxSectors-1, full)
	checkDiskOut(t, "DiskRead of the 64th", impl.DiskRead(last, impl.MaxSectors-1), impl.DiskOut{Disk: last, Data: full})
	one := diskOf(1, mostPending)
	checkDiskOut(t, "DiskRead of 200 pending", impl.DiskRead(one, 0), impl.DiskOut{Disk: one, Data: "p199"})
}

func TestDiskReadFaults(t *testing.T) {
	for _, d := range []impl.Disk{diskOf(3, 0), diskOf(3, 7)} {
		for _, at := range []int64{-1, 3, 4, impl.MaxSectors, 1 << 32, math.MinInt64, math.MaxInt64} {
			checkDiskOut(t, "DiskRead out of range", impl.DiskRead(d, at), diskFault(impl.ErrRange))
		}
	}
	checkDiskOut(t, "DiskRead behind the 64th", impl.DiskRead(diskOf(impl.MaxSectors, 0), impl.MaxSectors), diskFault(impl.ErrRange))
	for name, d := range wrongDisks() {
		for _, at := range []int64{-1, 0, 1, 3, 65, math.MaxInt64} {
			checkDiskOut(t, "DiskRead of "+name, impl.DiskRead(d, at), diskFault(impl.ErrForm))
		}
	}
}

func TestDiskWriteIsPending(t *testing.T) {
	full := strings.Repeat("x", impl.SectorSize)
	for _, d := range []impl.Disk{diskOf(3, 0), diskOf(3, 1), diskOf(3, 5), diskOf(3, mostPending-1)} {
		for at := range int64(3) {
			for _, data := range []string{"", "a", "\x00\xff", full} {
				checkDiskOut(t, "DiskWrite", impl.DiskWrite(d, at, data), impl.DiskOut{Disk: withPending(d, at, data)})
			}
		}
	}
	most := diskOf(impl.MaxSectors, 0)
	checkDiskOut(t, "DiskWrite to the 64th", impl.DiskWrite(most, impl.MaxSectors-1, "a"), impl.DiskOut{Disk: withPending(most, impl.MaxSectors-1, "a")})
}

func TestDiskWriteFaults(t *testing.T) {
	long := strings.Repeat("x", impl.SectorSize+1)
	most := strings.Repeat("x", impl.MaxBytes)
	huge := most + "x"
	free, full, wrong := diskOf(3, 2), diskOf(3, mostPending), diskOf(impl.MaxSectors+1, 0)
	for _, c := range []struct {
		what string
		d    impl.Disk
		at   int64
		data string
		code int64
	}{
		{"too long", free, 1, long, impl.ErrForm},
		{"as long as a text may be", free, 1, most, impl.ErrForm},
		{"longer than a text may be", free, 1, huge, impl.ErrSize},
		{"below 0", free, -1, "a", impl.ErrRange},
		{"behind the last", free, 3, "a", impl.ErrRange},
		{"at the least", free, math.MinInt64, "", impl.ErrRange},
		{"at the greatest", free, math.MaxInt64, "", impl.ErrRange},
		{"full", full, 1, "a", impl.ErrFull},
		{"full, and nothing to write", full, 0, "", impl.ErrFull},
		{"size, form of d, range", wrong, -1, huge, impl.ErrSize},
		{"size, range, full", full, 3, huge, impl.ErrSize},
		{"form of d, range", wrong, 70, "a", impl.ErrForm},
		{"form of d, full", diskOf(3, mostPending+1), 1, "a", impl.ErrForm},
		{"form of data, range", free, -1, long, impl.ErrForm},
		{"form of data, range behind", free, 3, long, impl.ErrForm},
		{"form of data, full", full, 1, long, impl.ErrForm},
		{"form of data, range, full", full, 3, most, impl.ErrForm},
		{"range, full", full, 3, "a", impl.ErrRange},
		{"range below, full", full, -1, "a", impl.ErrRange},
	} {
		checkDiskOut(t, "DiskWrite "+c.what, impl.DiskWrite(c.d, c.at, c.data), diskFault(c.code))
	}
	for name, d := range wrongDisks() {
		checkDiskOut(t, "DiskWrite to "+name, impl.DiskWrite(d, 0, "a"), diskFault(impl.ErrForm))
		checkDiskOut(t, "DiskWrite of too much to "+name, impl.DiskWrite(d, 0, huge), diskFault(impl.ErrSize))
	}
}

func TestDiskFlush(t *testing.T) {
	d := diskOf(4, 0)
	d.Pending = []impl.Pending{{At: 1, Data: "a"}, {At: 3, Data: "b"}, {At: 3, Data: "c"}, {At: 1, Data: "d"}, {At: 3, Data: ""}}
	checkDiskOut(t, "DiskFlush", impl.DiskFlush(d), impl.DiskOut{Disk: impl.Disk{Sectors: []string{"s0", "d", "s2", ""}}})
	checkDiskOut(t, "DiskFlush of nothing", impl.DiskFlush(diskOf(3, 0)), impl.DiskOut{Disk: diskOf(3, 0)})
	checkDiskOut(t, "DiskFlush of 200", impl.DiskFlush(diskOf(3, mostPending)), impl.DiskOut{Disk: impl.Disk{Sectors: []string{"p198", "p199", "p197"}}})
	for name, d := range rightDisks() {
		got := impl.DiskFlush(d)
		if got.Code != impl.OK || len(got.Disk.Sectors) != len(d.Sectors) || len(got.Disk.Pending) != 0 || !impl.DiskRight(got.Disk) {
			t.Errorf("DiskFlush of %s: %+v", name, got)
		}
	}
	for name, d := range wrongDisks() {
		checkDiskOut(t, "DiskFlush of "+name, impl.DiskFlush(d), diskFault(impl.ErrForm))
	}
}

func TestDiskCrashKeep(t *testing.T) {
	d := diskOf(3, 0)
	d.Pending = []impl.Pending{{At: 0, Data: "a"}, {At: 1, Data: "b"}, {At: 0, Data: "c"}, {At: 2, Data: ""}, {At: 1, Data: "e"}}
	for _, c := range []struct {
		keep []int64
		want []string
	}{
		{nil, []string{"s0", "s1", "s2"}},
		{[]int64{}, []string{"s0", "s1", "s2"}},
		{[]int64{0}, []string{"s0", "s1", "s2"}},
		{[]int64{1}, []string{"a", "s1", "s2"}},
		{[]int64{2}, []string{"a", "s1", "s2"}},
		{[]int64{-1, math.MinInt64, 0, -7, 0}, []string{"s0", "s1", "s2"}},
		{[]int64{0, 1}, []string{"s0", "b", "s2"}},
		{[]int64{1, 0, 1}, []string{"c", "s1", "s2"}},
		{[]int64{1, 0, 0, 1, 0}, []string{"a", "s1", ""}},
		{[]int64{1, 1, 1, 1, 1}, []string{"c", "e", ""}},
		{[]int64{math.MaxInt64, -1, math.MinInt64, 5, 1}, []string{"a", "e", ""}},
		{[]int64{0, 0, 1, 0, 1, 1, 1}, []string{"c", "e", "s2"}},
		{[]int64{0, 0, 0, 0, 0, 1, 1}, []string{"s0", "s1", "s2"}},
	} {
		checkDisk(t, "DiskCrash", impl.DiskCrash(d, c.keep), impl.Disk{Sectors: c.want})
	}
	checkDisk(t, "DiskCrash with nothing pending", impl.DiskCrash(diskOf(3, 0), []int64{1, 1}), diskOf(3, 0))
}

func TestDiskCrashLimits(t *testing.T) {
	all := slices.Repeat([]int64{1}, impl.MaxList)
	d := diskOf(3, mostPending)
	checkDisk(t, "DiskCrash with 400 to keep", impl.DiskCrash(d, all), impl.Disk{Sectors: []string{"p198", "p199", "p197"}})
	most := append(make([]int64, mostPending-1), 1)
	checkDisk(t, "DiskCrash with the last one kept", impl.DiskCrash(d, most), impl.Disk{Sectors: []string{"s0", "p199", "s2"}})
	if got := impl.DiskCrash(d, append(all, 1)); !zeroDisk(got) {
		t.Errorf("DiskCrash with 401 to keep: %+v", got)
	}
	for name, d := range wrongDisks() {
		checkDisk(t, "DiskCrash of "+name, impl.DiskCrash(d, nil), d)
		checkDisk(t, "DiskCrash of "+name, impl.DiskCrash(d, all), d)
		if got := impl.DiskCrash(d, append(all, 1)); !zeroDisk(got) {
			t.Errorf("DiskCrash of %s with 401 to keep: %+v", name, got)
		}
	}
}

// diskCalls: what each call answers for a disk; the data is laid in new memory, as the others' arguments are.
func diskCalls(d impl.Disk) map[string]impl.Disk {
	return map[string]impl.Disk{
		"DiskRead":       impl.DiskRead(d, 0).Disk,
		"DiskWrite":      impl.DiskWrite(d, 0, strings.Clone("new")).Disk,
		"DiskFlush":      impl.DiskFlush(d).Disk,
		"DiskCrash":      impl.DiskCrash(d, nil),
		"DiskCrash kept": impl.DiskCrash(d, []int64{1, 1, 1}),
	}
}

func spoil(d impl.Disk) {
	for _, list := range [][]string{d.Sectors, d.Sectors[:cap(d.Sectors)]} {
		for i := range list {
			list[i] = "spoilt"
		}
	}
	for _, list := range [][]impl.Pending{d.Pending, d.Pending[:cap(d.Pending)]} {
		for i := range list {
			list[i] = impl.Pending{At: 99, Data: "spoilt"}
		}
	}
}

// roomy has spare room behind its lists, into which a call that appends would write.
func roomy(d impl.Disk) impl.Disk {
	sectors := append(make([]string, 0, len(d.Sectors)+5), d.Sectors...)
	pending := append(make([]impl.Pending, 0, len(d.Pending)+5), d.Pending...)
	return impl.Disk{Sectors: sectors, Pending: pending}
}

// checkApart: each of the calls leaves what it is given as it was, and answers new memory.
func checkApart(t *testing.T, name string, d impl.Disk, calls func(d impl.Disk) map[string]impl.Disk) {
	t.Helper()
	for call := range calls(d) {
		given := roomy(d)
		spareSector, sparePending := given.Sectors[:cap(given.Sectors)], given.Pending[:cap(given.Pending)]
		got := calls(given)[call]
		checkDisk(t, call+" changes "+name, given, d)
		if spareSector[len(d.Sectors)] != "" || sparePending[len(d.Pending)] != (impl.Pending{}) {
			t.Errorf("%s writes behind the lists of %s", call, name)
		}
		want := cloneDisk(got)
		spoil(given)
		checkDisk(t, call+" shares the memory of "+name, got, want)
		given = roomy(d)
		got = calls(given)[call]
		spoil(got)
		checkDisk(t, call+" answers the memory of "+name, given, d)
	}
}

func TestDiskApart(t *testing.T) {
	for name, d := range rightDisks() {
		checkApart(t, name, d, diskCalls)
	}
	for name, d := range wrongDisks() {
		checkApart(t, name, d, diskCalls)
	}
}

func TestDiskCrashLeavesKeep(t *testing.T) {
	keep := []int64{1, 0, -3, 7}
	impl.DiskCrash(diskOf(3, 4), keep)
	if !slices.Equal(keep, []int64{1, 0, -3, 7}) {
		t.Errorf("keep is %v", keep)
	}
}

// sharesText: of texts with bytes alone, the empty one has none to share.
func sharesText(a string, b string) bool {
	return len(a) > 0 && len(b) > 0 && unsafe.StringData(a) == unsafe.StringData(b)
}

func TestDiskTextsAreNew(t *testing.T) {
	data := strings.Clone("written now")
	d := withPending(withSector(impl.DiskNew(2), 0, strings.Clone("a sector")), 1, strings.Clone("a pending one"))
	given := []string{data, d.Sectors[0], d.Pending[0].Data}
	wrong := withPending(d, 9, data)
	read, readPending := impl.DiskRead(d, 0), impl.DiskRead(d, 1)
	told := []string{read.Data, readPending.Data}
	for _, answer := range []impl.Disk{read.Disk, impl.DiskWrite(d, 0, data).Disk, impl.DiskFlush(d).Disk, impl.DiskCrash(d, []int64{1}), impl.DiskCrash(wrong, nil)} {
		told = append(told, answer.Sectors...)
		for _, p := range answer.Pending {
			told = append(told, p.Data)
		}
	}
	for _, text := range told {
		for _, other := range given {
			if sharesText(text, other) {
				t.Errorf("%q shares memory with an argument", text)
			}
		}
	}
}

// diskModel is the disk of promise 3: what is read, what was flushed, and what was written since, by sectors.
type diskModel struct {
	now     []string
	flushed []string
	since   [][]string
}

func newModel(sectors int) *diskModel {
	return &diskModel{now: make([]string, sectors), flushed: make([]string, sectors), since: make([][]string, sectors)}
}

func (m *diskModel) write(at int, data string) {
	m.now[at] = data
	m.since[at] = append(m.since[at], data)
}

func (m *diskModel) rest(now []string) {
	m.now, m.flushed = slices.Clone(now), slices.Clone(now)
	m.since = make([][]string, len(now))
}

func (m *diskModel) check(t *testing.T, d impl.Disk) {
	t.Helper()
	for at, want := range m.now {
		checkDiskOut(t, "promise 3, read", impl.DiskRead(d, int64(at)), impl.DiskOut{Disk: d, Data: want})
	}
}

func randomKeep(random *rand.Rand) []int64 {
	keep := make([]int64, random.Intn(mostPending+10))
	for i := range keep {
		keep[i] = int64(random.Intn(5) - 2)
	}
	return keep
}

func TestPromise3WrittenIsRead(t *testing.T) {
	random := rand.New(rand.NewSource(3))
	for _, sectors := range []int{1, 2, 5, impl.MaxSectors} {
		d, model := impl.DiskNew(int64(sectors)), newModel(sectors)
		for step := range 400 {
			at, data := random.Intn(sectors), strings.Repeat(string(rune('a'+step%26)), random.Intn(impl.SectorSize+1))
			got := impl.DiskWrite(d, int64(at), data)
			switch {
			case len(d.Pending) == mostPending:
				checkDiskOut(t, "promise 3, full", got, diskFault(impl.ErrFull))
				d = impl.DiskFlush(d).Disk
				model.rest(model.now)
			case got.Code != impl.OK:
				t.Fatalf("write %d: code %d", step, got.Code)
			default:
				d = got.Disk
				model.write(at, data)
			}
			model.check(t, d)
		}
	}
}

func TestPromise3FlushedStays(t *testing.T) {
	random := rand.New(rand.NewSource(4))
	d := diskOf(7, 30)
	want := make([]string, 7)
	for at := range want {
		want[at] = impl.DiskRead(d, int64(at)).Data
	}
	flushed := impl.DiskFlush(d).Disk
	for range 200 {
		checkDisk(t, "promise 3, flushed", impl.DiskCrash(flushed, randomKeep(random)), impl.Disk{Sectors: want})
	}
}

func TestPromise3CrashLeavesOldOrNew(t *testing.T) {
	random := rand.New(rand.NewSource(5))
	for range 100 {
		sectors := 1 + random.Intn(impl.MaxSectors)
		d, model := impl.DiskNew(int64(sectors)), newModel(sectors)
		for range random.Intn(mostPending) {
			at, data := random.Intn(sectors), strconv.Itoa(random.Int())
			d = impl.DiskWrite(d, int64(at), data).Disk
			model.write(at, data)
			if random.Intn(40) == 0 {
				d = impl.DiskFlush(d).Disk
				model.rest(model.now)
			}
		}
		crashed := impl.DiskCrash(d, randomKeep(random))
		if len(crashed.Sectors) != sectors || len(crashed.Pending) != 0 {
			t.Fatalf("crashed: %+v", crashed)
		}
		for at, text := range crashed.Sectors {
			if text != model.flushed[at] && !slices.Contains(model.since[at], text) {
				t.Errorf("sector %d is %q: neither flushed nor written since", at, text)
			}
		}
		model.rest(crashed.Sectors)
		model.check(t, crashed)
	}
}
