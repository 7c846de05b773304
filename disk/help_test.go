package disk_test

import (
	"cmp"
	"math/rand"
	"slices"
	"strings"
	"testing"
	"unsafe"

	"wapentake/api"
	"wapentake/disk"
)

// The kinds of calls: the four operations first.
const (
	appends = iota
	syncs
	renames
	deletes
	fuses
	crashes
	starts
	kinds
)

// call is a call of one of a disk's methods: to is the record of an Append and the new name of a Rename.
type call struct {
	kind     int
	name, to string
	n        int
	c        api.Crash
}

// do makes the call; one that returns no error returns OK.
func do(d *disk.Disk, x call) api.Errno {
	switch x.kind {
	case appends:
		return d.Append(x.name, x.to)
	case syncs:
		return d.Sync(x.name)
	case renames:
		return d.Rename(x.name, x.to)
	case deletes:
		return d.Delete(x.name)
	case fuses:
		d.Fuse(x.n)
	case crashes:
		d.Crash(x.c)
	case starts:
		d.Start()
	}
	return api.OK
}

// model is a disk by the chapter's words: each file with all its records.
type model struct {
	files []modelFile // by ascending names
	fuse  int
	off   bool
}

type modelFile struct {
	name    string
	records []string
	synced  int
	torn    string
	cut     bool
}

func (m *model) find(name string) int {
	return slices.IndexFunc(m.files, func(f modelFile) bool { return f.name == name })
}

// do is what the call does to a disk, and the error that it returns.
func (m *model) do(x call) api.Errno {
	switch x.kind {
	case fuses:
		m.fuse = max(0, x.n)
	case crashes:
		m.crash(x.c)
	case starts:
		m.off = false
	default:
		return m.operate(x)
	}
	return api.OK
}

func (m *model) operate(x call) api.Errno {
	if m.off {
		return api.ErrDown
	}
	if e := m.wrong(x); e != api.OK {
		return e
	}
	switch m.fuse {
	case 0:
	case 1:
		m.fuse, m.off = 0, true
		return api.ErrDown
	default:
		m.fuse--
	}
	at := m.find(x.name)
	switch x.kind {
	case appends:
		if at < 0 {
			m.files = append(m.files, modelFile{name: x.name})
			at = len(m.files) - 1
		}
		m.files[at].records = append(m.files[at].records, x.to)
	case syncs:
		m.files[at].synced = len(m.files[at].records)
	case renames:
		f := m.files[at]
		m.files = slices.DeleteFunc(m.files, func(f modelFile) bool { return f.name == x.name || f.name == x.to })
		f.name = x.to
		m.files = append(m.files, f)
	case deletes:
		m.files = slices.Delete(m.files, at, at+1)
	}
	slices.SortFunc(m.files, func(a, b modelFile) int { return cmp.Compare(a.name, b.name) })
	return api.OK
}

// wrong is the error of an operation while the power is on, but for ErrDown.
func (m *model) wrong(x call) api.Errno {
	at := m.find(x.name)
	switch {
	case x.kind == appends && (len(x.name) < 1 || len(x.name) > 32 || len(x.to) == 0):
		return api.ErrArg
	case x.kind == appends && at >= 0 && m.files[at].cut:
		return api.ErrState
	case x.kind == renames && (len(x.to) < 1 || len(x.to) > 32):
		return api.ErrArg
	case x.kind != appends && at < 0:
		return api.ErrNone
	}
	return api.OK
}

func (m *model) crash(c api.Crash) {
	m.off = true
	keeps, torns := c.Keep, c.Torn
	for i := range m.files {
		f := &m.files[i]
		if f.synced == len(f.records) {
			continue
		}
		keep, torn := 0, 0
		if len(keeps) > 0 {
			keep, keeps = keeps[0], keeps[1:]
		}
		if len(torns) > 0 {
			torn, torns = torns[0], torns[1:]
		}
		keep = min(len(f.records), f.synced+min(len(f.records), max(keep, 0)))
		if keep < len(f.records) {
			f.cut = true
			next := f.records[keep]
			for torn %= len(next); torn < 0; {
				torn += len(next)
			}
			f.torn = next[:torn]
		}
		f.records, f.synced = f.records[:keep], keep
	}
}

func (m *model) twin() *model {
	u := &model{files: slices.Clone(m.files), fuse: m.fuse, off: m.off}
	for i := range u.files {
		u.files[i].records = slices.Clone(u.files[i].records)
	}
	return u
}

func (f *modelFile) contents() string {
	return strings.Join(f.records, "") + f.torn
}

// isAs demands that the disk tells all that the model tells, of these names too.
func (m *model) isAs(t *testing.T, d *disk.Disk, names []string) {
	t.Helper()
	if d.Down() != m.off || d.Fused() != m.fuse {
		t.Fatalf("down %v, a fuse of %d, not %v, %d", d.Down(), d.Fused(), m.off, m.fuse)
	}
	list := d.List()
	if len(list) != len(m.files) {
		t.Fatalf("files %q, not %d", list, len(m.files))
	}
	for i, f := range m.files {
		if list[i] != f.name {
			t.Fatalf("files %q, but the one at %d has the name %q", list, i, f.name)
		}
		want, wantE := f.contents(), api.OK
		if m.off {
			want, wantE = "", api.ErrDown
		}
		if s, e := d.Read(f.name); s != want || e != wantE {
			t.Fatalf("%q read as %q, %d, not %q, %d", f.name, s, e, want, wantE)
		}
		if all, synced := d.Records(f.name); all != len(f.records) || synced != f.synced {
			t.Fatalf("%q has %d records, %d of them synced, not %d, %d", f.name, all, synced, len(f.records), f.synced)
		}
	}
	for _, name := range names {
		if m.find(name) < 0 {
			isNoFile(t, d, name)
		}
	}
}

// isNoFile demands that the disk has no file of that name.
func isNoFile(t *testing.T, d *disk.Disk, name string) {
	t.Helper()
	want := api.ErrNone
	if d.Down() {
		want = api.ErrDown
	}
	if s, e := d.Read(name); s != "" || e != want {
		t.Fatalf("%q, which is no file, read as %q, %d", name, s, e)
	}
	if all, synced := d.Records(name); all != 0 || synced != 0 {
		t.Fatalf("%q, which is no file, has %d records, %d of them synced", name, all, synced)
	}
	if slices.Contains(d.List(), name) {
		t.Fatalf("%q, which is no file, is listed", name)
	}
}

// are demands that the calls return these errors, one after the other.
func are(t *testing.T, want api.Errno, got ...api.Errno) {
	t.Helper()
	for k, e := range got {
		if e != want {
			t.Fatalf("the call %d returned %d, not %d", k, e, want)
		}
	}
}

// has demands that a file has these contents, records and synced records.
func has(t *testing.T, d *disk.Disk, name, contents string, all, synced int) {
	t.Helper()
	if s, e := d.Read(name); s != contents || e != api.OK {
		t.Fatalf("%q read as %q, %d, not %q", name, s, e, contents)
	}
	if a, b := d.Records(name); a != all || b != synced {
		t.Fatalf("%q has %d records, %d of them synced, not %d, %d", name, a, b, all, synced)
	}
}

// lists demands that these are the disk's files, in this order.
func lists(t *testing.T, d *disk.Disk, names ...string) {
	t.Helper()
	if got := d.List(); !slices.Equal(got, names) {
		t.Fatalf("files %q, not %q", got, names)
	}
}

// isCut demands that a file takes another record, or that it is cut and takes none. It is asked of a twin.
func isCut(t *testing.T, d *disk.Disk, name string, cut bool) {
	t.Helper()
	want := api.OK
	if cut {
		want = api.ErrState
	}
	if e := appendToTwin(d, name); e != want {
		t.Fatalf("an Append to %q returned %d, not %d", name, e, want)
	}
}

// appendToTwin is what an Append would return if the power were on and there were no fuse.
func appendToTwin(d *disk.Disk, name string) api.Errno {
	u := d.Twin()
	u.Start()
	u.Fuse(0)
	return u.Append(name, "x")
}

// with returns a disk on which the files a, b, c, .. have these records; those behind a "|" are not synced.
func with(t *testing.T, files ...[]string) *disk.Disk {
	t.Helper()
	d := disk.New()
	for i, records := range files {
		name := string(rune('a' + i))
		for _, r := range records {
			if r == "|" {
				are(t, api.OK, d.Sync(name))
			} else {
				are(t, api.OK, d.Append(name, r))
			}
		}
	}
	return d
}

// crashed returns a twin after a crash, with the power on.
func crashed(d *disk.Disk, keep, torn []int) *disk.Disk {
	u := d.Twin()
	u.Crash(api.Crash{Keep: keep, Torn: torn})
	u.Start()
	return u
}

// someCalls returns any calls: mostly operations, of few files; n-th records are from record.
func someCalls(random *rand.Rand, count int, names []string, record func(n int) string) []call {
	var all []call
	for n := range count {
		x := call{kind: random.Intn(kinds), name: names[random.Intn(len(names))], n: random.Intn(20) - 2}
		if random.Intn(2) == 0 {
			x.kind = appends
		}
		switch x.kind {
		case appends:
			x.to = record(n)
		case renames:
			x.to = names[random.Intn(len(names))]
		case crashes:
			x.c = api.Crash{Keep: someChoices(random, 5), Torn: someChoices(random, 12)}
			all = append(all, x)
			// Without power nothing much goes on.
			x = call{kind: starts}
		}
		all = append(all, x)
		if x.kind != starts && random.Intn(8) == 0 {
			all = append(all, call{kind: starts})
		}
	}
	return all
}

// someChoices are nil, or up to six numbers about as great as most, some below 0.
func someChoices(random *rand.Rand, most int) []int {
	if random.Intn(5) == 0 {
		return nil
	}
	all := make([]int, random.Intn(7))
	for i := range all {
		all[i] = random.Intn(most+3) - 2
	}
	return all
}

// lying returns a string that lies in these bytes, and changes with them.
func lying(b []byte) string { return unsafe.String(&b[0], len(b)) }

// liesIn reports whether a lies in the bytes of b.
func liesIn(a, b string) bool {
	from := uintptr(unsafe.Pointer(unsafe.StringData(b)))
	at := uintptr(unsafe.Pointer(unsafe.StringData(a)))
	return len(a) > 0 && at >= from && at < from+uintptr(len(b))
}
