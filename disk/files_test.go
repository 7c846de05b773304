package disk_test

import (
	"slices"
	"strings"
	"testing"

	"wapentake/api"
	"wapentake/disk"
)

func TestExamples(t *testing.T) {
	d := disk.New()
	are(t, api.OK, d.Append("a", "xyz"), d.Sync("a"), d.Append("a", "pq"), d.Append("a", "rst"))
	d.Crash(api.Crash{Keep: []int{1}, Torn: []int{2}})
	d.Start()
	has(t, d, "a", "xyzpqrs", 2, 2)
	are(t, api.ErrState, d.Append("a", "u"))
	are(t, api.OK, d.Rename("a", "b"), d.Append("a", "u"))
	d.Fuse(2)
	are(t, api.OK, d.Sync("a"))
	are(t, api.ErrDown, d.Delete("b"))
	if s, e := d.Read("a"); s != "" || e != api.ErrDown {
		t.Errorf("read as %q, %d", s, e)
	}
	d.Start()
	lists(t, d, "a", "b")
	are(t, api.ErrArg, d.Append("c", ""))
	are(t, api.ErrNone, d.Sync("c"))
	are(t, api.ErrArg, d.Append("", "x"), d.Append("", ""))
	lists(t, d, "a", "b")
}

func TestANewDisk(t *testing.T) {
	d := disk.New()
	lists(t, d)
	if d.Down() || d.Fused() != 0 {
		t.Errorf("down %v, a fuse of %d", d.Down(), d.Fused())
	}
	are(t, api.ErrNone, d.Sync("a"), d.Delete("a"), d.Rename("a", "b"), d.Rename("a", "a"))
	isNoFile(t, d, "a")
	isNoFile(t, d, "")
	// One disk's files are not another's.
	are(t, api.OK, d.Append("a", "x"))
	isNoFile(t, disk.New(), "a")
}

func TestAppendsGrowAFile(t *testing.T) {
	d := disk.New()
	var want strings.Builder
	for n, r := range []string{"a", "\x00", "", "\xff\xfe", "a", "bcd", "", strings.Repeat("long", 1<<18), "\n", "é"} {
		if r == "" {
			are(t, api.ErrArg, d.Append("f", r))
			continue
		}
		before := want.Len()
		all, _ := d.Records("f")
		are(t, api.OK, d.Append("f", r))
		want.WriteString(r)
		has(t, d, "f", want.String(), all+1, 0)
		if s, _ := d.Read("f"); s[before:] != r {
			t.Fatalf("the record %d is %.20q", n, s[before:])
		}
	}
	are(t, api.OK, d.Sync("f"))
	has(t, d, "f", want.String(), 8, 8)
	are(t, api.OK, d.Append("f", "x"), d.Append("f", "y"))
	has(t, d, "f", want.String()+"xy", 10, 8)
}

// names are file names of every length, and of every byte.
func names() []string {
	all := []string{"\x00\x00", "a/b", "../a", ".", " ", "A", "a\x00", "a\x00b", strings.Repeat("é", 16), strings.Repeat("\xff", 31) + "a"}
	for n := range 256 {
		all = append(all, string([]byte{byte(n)}))
	}
	for n := 2; n <= 32; n++ {
		all = append(all, strings.Repeat("\x00", n-1)+"n", strings.Repeat("n", n))
	}
	slices.Sort(all)
	return slices.Compact(all)
}

// noNames are no file names: without bytes, or with more than 32.
func noNames() []string {
	all := []string{"", strings.Repeat("é", 17), strings.Repeat("é", 32)}
	for _, n := range []int{33, 34, 63, 64, 65, 255, 256, 257, 288, 1 << 16, 1<<16 + 1} {
		all = append(all, strings.Repeat("n", n), strings.Repeat("\x00", n))
	}
	return all
}

func TestNames(t *testing.T) {
	d := disk.New()
	for _, name := range names() {
		are(t, api.OK, d.Append(name, "of "+name))
	}
	lists(t, d, names()...)
	for _, name := range names() {
		has(t, d, name, "of "+name, 1, 0)
		are(t, api.OK, d.Sync(name))
		has(t, d, name, "of "+name, 1, 1)
	}
	u := disk.New()
	are(t, api.OK, u.Append("a", "x"), u.Append("z", "z"))
	was := "a"
	for _, name := range names() {
		if name == "z" {
			continue
		}
		are(t, api.OK, u.Rename(was, name))
		has(t, u, name, "x", 1, 0)
		if was = name; len(u.List()) != 2 {
			t.Fatalf("files %q", u.List())
		}
	}
	for _, name := range names() {
		are(t, api.OK, d.Delete(name))
		isNoFile(t, d, name)
	}
	lists(t, d)
}

func TestWhatIsNoName(t *testing.T) {
	d := with(t, []string{"x", "|", "y"})
	d.Fuse(1)
	for _, name := range noNames() {
		are(t, api.ErrArg, d.Append(name, "x"), d.Append(name, ""), d.Rename("a", name), d.Rename("none", name), d.Rename(name, name))
		are(t, api.ErrNone, d.Sync(name), d.Delete(name), d.Rename(name, "a"), d.Rename(name, "b"))
		isNoFile(t, d, name)
	}
	lists(t, d, "a")
	has(t, d, "a", "xy", 2, 1)
	if d.Fused() != 1 {
		t.Errorf("a fuse of %d", d.Fused())
	}
}

func TestAnEmptyRecord(t *testing.T) {
	d := with(t, []string{"x"})
	are(t, api.ErrArg, d.Append("a", ""), d.Append("b", ""))
	has(t, d, "a", "x", 1, 0)
	isNoFile(t, d, "b")
	// Also where the file is cut.
	u := crashed(d, nil, nil)
	are(t, api.ErrArg, u.Append("a", ""))
	are(t, api.ErrState, u.Append("a", "x"))
}

func TestSync(t *testing.T) {
	d := with(t, []string{"1", "22", "|", "333"}, []string{"4", "5"})
	has(t, d, "a", "122333", 3, 2)
	has(t, d, "b", "45", 2, 0)
	are(t, api.OK, d.Sync("b"))
	has(t, d, "a", "122333", 3, 2)
	has(t, d, "b", "45", 2, 2)
	// There is nothing left to sync, and nothing changes.
	are(t, api.OK, d.Sync("b"), d.Sync("b"))
	has(t, d, "b", "45", 2, 2)
	are(t, api.ErrNone, d.Sync("c"))
	isNoFile(t, d, "c")
	// A file without records, too.
	u := crashed(d.Twin(), nil, nil)
	are(t, api.OK, u.Append("e", "x"))
	u = crashed(u, nil, nil)
	are(t, api.OK, u.Sync("e"), u.Sync("a"))
	has(t, u, "e", "", 0, 0)
	isCut(t, u, "e", true)
	isCut(t, u, "a", true)
	isCut(t, u, "b", false)
}

func TestRename(t *testing.T) {
	d := with(t, []string{"1", "22", "|", "333"}, []string{"4", "|", "5"}, []string{"6"})
	are(t, api.OK, d.Rename("a", "z"))
	lists(t, d, "b", "c", "z")
	isNoFile(t, d, "a")
	has(t, d, "z", "122333", 3, 2)
	has(t, d, "b", "45", 2, 1)
	// Onto another file, which is deleted.
	are(t, api.OK, d.Rename("z", "b"))
	lists(t, d, "b", "c")
	has(t, d, "b", "122333", 3, 2)
	isNoFile(t, d, "z")
	// What had the name is not seen any more, when the file goes away again.
	are(t, api.OK, d.Rename("b", "a"))
	isNoFile(t, d, "b")
	are(t, api.OK, d.Append("b", "7"))
	has(t, d, "b", "7", 1, 0)
	has(t, d, "a", "122333", 3, 2)
	are(t, api.OK, d.Append("a", "8"), d.Sync("a"))
	has(t, d, "a", "1223338", 4, 4)
	has(t, d, "c", "6", 1, 0)
}

func TestRenameToTheSameName(t *testing.T) {
	d := with(t, []string{"1", "|", "22"}, []string{"3", "|"})
	for _, name := range []string{"a", "b"} {
		are(t, api.OK, d.Rename(name, name))
	}
	lists(t, d, "a", "b")
	has(t, d, "a", "122", 2, 1)
	has(t, d, "b", "3", 1, 1)
	u := crashed(d, nil, []int{1})
	are(t, api.OK, u.Rename("a", "a"))
	has(t, u, "a", "12", 1, 1)
	isCut(t, u, "a", true)
	are(t, api.ErrNone, d.Rename("c", "c"))
	lists(t, d, "a", "b")
}

func TestRenameOfNoFile(t *testing.T) {
	d := with(t, []string{"1"})
	are(t, api.ErrNone, d.Rename("b", "a"), d.Rename("b", "c"), d.Rename("", "a"), d.Rename("", "c"))
	are(t, api.ErrArg, d.Rename("b", ""), d.Rename("a", ""), d.Rename("", ""))
	lists(t, d, "a")
	has(t, d, "a", "1", 1, 0)
}

// TestACutFileIsRenamed: what a crash left goes with the file, and is nothing to the file that takes the name.
func TestACutFileIsRenamed(t *testing.T) {
	d := crashed(with(t, []string{"1", "|", "22"}, []string{"3", "|"}), nil, []int{1})
	are(t, api.ErrState, d.Append("a", "4"))
	are(t, api.OK, d.Rename("a", "c"))
	are(t, api.ErrState, d.Append("c", "4"))
	has(t, d, "c", "12", 1, 1)
	are(t, api.OK, d.Append("a", "4"))
	has(t, d, "a", "4", 1, 0)
	// Another file onto the one that is cut.
	u := d.Twin()
	are(t, api.OK, u.Rename("b", "c"), u.Append("c", "5"))
	has(t, u, "c", "35", 2, 1)
	// The one that is cut onto another file.
	are(t, api.OK, d.Rename("c", "b"))
	are(t, api.ErrState, d.Append("b", "5"))
	has(t, d, "b", "12", 1, 1)
}

func TestDelete(t *testing.T) {
	d := with(t, []string{"1", "|", "22"}, []string{"3", "|"}, []string{"4"})
	are(t, api.ErrNone, d.Delete("d"), d.Delete(""), d.Delete("A"))
	are(t, api.OK, d.Delete("a"))
	lists(t, d, "b", "c")
	isNoFile(t, d, "a")
	are(t, api.ErrNone, d.Delete("a"), d.Sync("a"), d.Rename("a", "b"))
	// Another file by the same name begins anew.
	are(t, api.OK, d.Append("a", "5"))
	has(t, d, "a", "5", 1, 0)
	are(t, api.OK, d.Delete("b"), d.Delete("c"), d.Delete("a"))
	lists(t, d)
	// One that is cut, too.
	u := crashed(with(t, []string{"1", "|", "22"}), nil, []int{1})
	are(t, api.OK, u.Delete("a"), u.Append("a", "6"))
	has(t, u, "a", "6", 1, 0)
}

// TestRenamesAndDeletionsAreDurable: at once, while records are not.
func TestRenamesAndDeletionsAreDurable(t *testing.T) {
	d := with(t, []string{"1", "|"}, []string{"2", "|"}, []string{"3", "|"}, []string{"4"}, []string{"5"})
	are(t, api.OK, d.Rename("a", "z"), d.Rename("b", "c"), d.Rename("d", "y"), d.Delete("e"))
	u := crashed(d, nil, nil)
	lists(t, u, "c", "y", "z")
	has(t, u, "z", "1", 1, 1)
	has(t, u, "c", "2", 1, 1)
	has(t, u, "y", "", 0, 0)
}

func TestTheListIsInOrder(t *testing.T) {
	d := disk.New()
	want := []string{"", "\x00", "\x00\x00", "0", "00", "1", "10", "2", "A", "B", "Z", "a", "a\x00", "a0", "aa", "aaa", "ab", "b", "z", "é", "\xff", "\xff\xff"}[1:]
	for i := range want {
		// Neither the order in which they come, nor that of their lengths.
		are(t, api.OK, d.Append(want[i*8%len(want)], "x"))
	}
	for range 50 {
		lists(t, d, want...)
	}
	d.Crash(api.Crash{})
	lists(t, d, want...)
	d.Start()
	are(t, api.OK, d.Rename("a0", "1\x00"), d.Delete("z"))
	want = []string{"\x00", "\x00\x00", "0", "00", "1", "1\x00", "10", "2", "A", "B", "Z", "a", "a\x00", "aa", "aaa", "ab", "b", "é", "\xff", "\xff\xff"}
	lists(t, d, want...)
}

func TestRecords(t *testing.T) {
	d := disk.New()
	for n := 1; n <= 200; n++ {
		are(t, api.OK, d.Append("a", strings.Repeat("x", n%7+1)))
		synced := n / 10 * 10
		if n%10 == 0 {
			are(t, api.OK, d.Sync("a"))
		}
		if a, s := d.Records("a"); a != n || s != synced {
			t.Fatalf("%d, %d, not %d, %d", a, s, n, synced)
		}
	}
	isNoFile(t, d, "b")
	// What there is of records is told without power, too.
	are(t, api.OK, d.Append("a", "x"))
	d.Fuse(1)
	are(t, api.ErrDown, d.Append("a", "x"))
	if a, s := d.Records("a"); a != 201 || s != 200 || !d.Down() {
		t.Fatalf("%d, %d", a, s)
	}
	isNoFile(t, d, "b")
	d.Crash(api.Crash{})
	if a, s := d.Records("a"); a != 200 || s != 200 {
		t.Fatalf("%d, %d", a, s)
	}
}

func TestReadingChangesNothing(t *testing.T) {
	d := with(t, []string{"1", "|", "22"}, []string{"3"})
	d.Fuse(1)
	for range 10 {
		has(t, d, "a", "122", 2, 1)
		has(t, d, "b", "3", 1, 0)
		lists(t, d, "a", "b")
		isNoFile(t, d, "c")
		if d.Down() || d.Fused() != 1 {
			t.Fatalf("down %v, a fuse of %d", d.Down(), d.Fused())
		}
		d.Twin().Crash(api.Crash{})
	}
	are(t, api.ErrDown, d.Sync("a"))
}
