package disk_test

import (
	"math/rand"
	"slices"
	"strings"
	"testing"

	"wapentake/api"
	"wapentake/disk"
)

func TestATwinIsTheSame(t *testing.T) {
	d, m := operated(t)
	d.Twin().Twin().Twin()
	m.isAs(t, d.Twin(), fileNames)
	for _, x := range []call{{kind: fuses, n: 2}, {kind: appends, name: "a", to: "x"}, {kind: appends, name: "a", to: "y"}, {kind: crashes, c: api.Crash{Keep: []int{1, 1}}}, {kind: fuses, n: 3}} {
		if e, want := do(d, x), m.do(x); e != want {
			t.Fatalf("%v returned %d, not %d", x, e, want)
		}
		m.isAs(t, d.Twin(), fileNames)
		m.isAs(t, d.Twin().Twin(), fileNames)
	}
}

// TestATwinGoesItsOwnWay: neither sees what is done to the other one.
func TestATwinGoesItsOwnWay(t *testing.T) {
	changes := append([]call{{kind: fuses, n: 1}, {kind: fuses}, {kind: crashes}, {kind: crashes, c: api.Crash{Keep: []int{1, 1}, Torn: []int{1}}}, {kind: starts}}, operations...)
	for _, x := range changes {
		for _, y := range changes {
			d, m := operated(t)
			u, n := d.Twin(), m.twin()
			if e, want := do(d, x), m.do(x); e != want {
				t.Fatalf("%v returned %d, not %d", x, e, want)
			}
			n.isAs(t, u, fileNames)
			if e, want := do(u, y), n.do(y); e != want {
				t.Fatalf("%v returned %d, not %d", y, e, want)
			}
			m.isAs(t, d, fileNames)
			n.isAs(t, u, fileNames)
		}
	}
}

// TestTwinsGrowApart: though both append behind the same records.
func TestTwinsGrowApart(t *testing.T) {
	for n := 1; n <= 20; n++ {
		d := disk.New()
		for range n {
			are(t, api.OK, d.Append("a", "xy"))
		}
		twins := []*disk.Disk{d.Twin(), d, d.Twin()}
		for _, r := range []string{"1", "22", "333"} {
			for i, x := range twins {
				are(t, api.OK, x.Append("a", strings.Repeat(r, i+1)))
			}
		}
		begin := strings.Repeat("xy", n)
		for i, x := range twins {
			has(t, x, "a", begin+[]string{"122333", "112222333333", "111222222333333333"}[i], n+3, 0)
			for more, left := range [][]string{{"", "1", "1"}, {"12", "112", "1112"}, {"1223", "1122223", "1112222223"}} {
				has(t, crashed(x, []int{n + more}, []int{1}), "a", begin+left[i], n+more, n+more)
			}
		}
	}
}

// none returns a nil disk, and such as New did not create.
func none() []*disk.Disk {
	return []*disk.Disk{nil, {}, new(disk.Disk)}
}

func TestNoDisk(t *testing.T) {
	for i, d := range none() {
		for range 3 {
			for _, name := range []string{"a", "", strings.Repeat("n", 33)} {
				are(t, api.ErrNil, d.Append(name, "x"), d.Append(name, ""), d.Sync(name), d.Delete(name))
				are(t, api.ErrNil, d.Rename(name, name), d.Rename(name, ""), d.Rename(name, "b"))
				if s, e := d.Read(name); s != "" || e != api.ErrNil {
					t.Fatalf("%d: Read: %q, %d", i, s, e)
				}
				if all, synced := d.Records(name); all != 0 || synced != 0 {
					t.Fatalf("%d: Records: %d, %d", i, all, synced)
				}
			}
			if len(d.List()) != 0 || d.Fused() != 0 || !d.Down() || d.Twin() != nil {
				t.Fatalf("%d: %q, a fuse of %d, down %v, twin %v", i, d.List(), d.Fused(), d.Down(), d.Twin())
			}
			// None of these makes it one.
			d.Start()
			d.Fuse(2)
			d.Crash(api.Crash{})
			d.Crash(api.Crash{Keep: []int{1}, Torn: []int{-1}})
			d.Fuse(-1)
			d.Fuse(1)
			d.Start()
		}
	}
}

func TestListsAreTheCallers(t *testing.T) {
	d := with(t, []string{"1"}, []string{"2"}, []string{"3"})
	u := d.Twin()
	for _, x := range []*disk.Disk{d, u} {
		list, other := x.List(), x.List()
		whole := list[:cap(list)]
		for i := range whole {
			whole[i] = "zz"
		}
		_ = append(list[:1], "yy", "yy", "yy", "yy")
		if !slices.Equal(other, []string{"a", "b", "c"}) {
			t.Fatalf("another list changed: %q", other)
		}
		lists(t, d, "a", "b", "c")
		lists(t, u, "a", "b", "c")
		has(t, x, "a", "1", 1, 0)
		isNoFile(t, x, "zz")
	}
}

// TestStringsShareNoMemory: neither with arguments, nor with other answers.
func TestStringsShareNoMemory(t *testing.T) {
	name, record, other := strings.Repeat("n", 20), strings.Repeat("r", 100), strings.Repeat("m", 20)
	d := disk.New()
	are(t, api.OK, d.Append(name, record), d.Append("one", record), d.Sync("one"), d.Append("two", record), d.Append("two", record))
	for range 2 {
		for _, x := range []*disk.Disk{d, d.Twin(), crashed(d, []int{9, 9}, nil), crashed(d, []int{0, 1}, []int{50, 50})} {
			for _, file := range x.List() {
				a, _ := x.Read(file)
				b, _ := x.Read(file)
				c, _ := x.Twin().Read(file)
				if liesIn(a, record) || liesIn(a, b) || liesIn(a, c) || len(a) < 50 {
					t.Fatalf("what is read of %q shares memory, or is only %q", file, a)
				}
			}
			lists := [][]string{x.List(), x.List(), x.Twin().List(), {name, other, other}}
			for i := range lists {
				for j := range i {
					for k, s := range lists[j] {
						if liesIn(s, lists[i][k]) {
							t.Fatalf("a name of a list shares memory: %q", s)
						}
					}
				}
			}
		}
		are(t, api.OK, d.Rename(name, other))
		name, other = other, name
	}
}

// TestArgumentsMayChange: strings that lie in bytes that change later are not kept.
func TestArgumentsMayChange(t *testing.T) {
	bytes := []byte("namerecordanother")
	name, record, to := lying(bytes[:4]), lying(bytes[4:10]), lying(bytes[10:])
	d := disk.New()
	are(t, api.OK, d.Append(name, record), d.Append("b", record), d.Rename("b", to))
	u := d.Twin()
	for i := range bytes {
		bytes[i] = '?'
	}
	for _, x := range []*disk.Disk{d, u, d.Twin()} {
		lists(t, x, "another", "name")
		has(t, x, "name", "record", 1, 0)
		has(t, x, "another", "record", 1, 0)
	}
}

// TestAsTheModel: any calls of four, one behind the other, on a few files; each of them on a twin.
func TestAsTheModel(t *testing.T) {
	t.Parallel()
	calls := []call{
		{kind: appends, name: "a", to: "x"}, {kind: appends, name: "a", to: "yz"}, {kind: appends, name: "b", to: "uvw"}, {kind: appends, name: "", to: "x"}, {kind: appends, name: "b"},
		{kind: syncs, name: "a"}, {kind: syncs, name: "b"},
		{kind: renames, name: "a", to: "b"}, {kind: renames, name: "b", to: "a"}, {kind: renames, name: "a", to: "a"}, {kind: renames, name: "a", to: ""},
		{kind: deletes, name: "a"}, {kind: deletes, name: "b"},
		{kind: fuses, n: 1}, {kind: fuses, n: 2}, {kind: fuses, n: 0},
		{kind: crashes}, {kind: crashes, c: api.Crash{Keep: []int{1}, Torn: []int{1, 2}}}, {kind: crashes, c: api.Crash{Keep: []int{0, 9}, Torn: []int{-1}}},
		{kind: starts},
	}
	var went []call
	var visit func(d *disk.Disk, m *model, more int)
	visit = func(d *disk.Disk, m *model, more int) {
		for _, x := range calls {
			u, n := d.Twin(), m.twin()
			went = append(went, x)
			if e, want := do(u, x), n.do(x); e != want {
				t.Fatalf("behind %v: %d, not %d", went, e, want)
			}
			n.isAs(t, u, []string{"a", "b", ""})
			if more > 1 {
				visit(u, n, more-1)
				n.isAs(t, u, []string{"a", "b", ""})
			}
			went = went[:len(went)-1]
		}
	}
	visit(disk.New(), &model{}, 4)
	// And behind records that may be lost.
	d, m := disk.New(), &model{}
	for _, x := range []call{{kind: appends, name: "a", to: "k"}, {kind: syncs, name: "a"}, {kind: appends, name: "a", to: "lmn"}, {kind: appends, name: "b", to: "op"}, {kind: appends, name: "b", to: "q"}, {kind: appends, name: "c", to: "rst"}} {
		are(t, api.OK, do(d, x), m.do(x))
	}
	visit(d, m, 4)
}

// TestAsTheModelForLong: long rows of any calls.
func TestAsTheModelForLong(t *testing.T) {
	t.Parallel()
	names := []string{"a", "b", "c", "aa", "\x00", "\xff", "", strings.Repeat("n", 32), strings.Repeat("n", 33)}
	for seed := range int64(400) {
		random := rand.New(rand.NewSource(seed))
		d, m := disk.New(), &model{}
		record := func(n int) string {
			b := make([]byte, random.Intn(9))
			random.Read(b)
			return string(b)
		}
		for n, x := range someCalls(random, 300, names[:2+random.Intn(len(names)-1)], record) {
			if e, want := do(d, x), m.do(x); e != want {
				t.Fatalf("the call %d of the row %d, %#v, returned %d, not %d", n, seed, x, e, want)
			}
			m.isAs(t, d, names)
		}
	}
}
