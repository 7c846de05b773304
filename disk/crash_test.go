package disk_test

import (
	"math"
	"math/rand"
	"slices"
	"strings"
	"testing"

	"wapentake/api"
	"wapentake/disk"
)

func TestACrashTurnsThePowerOff(t *testing.T) {
	d := disk.New()
	d.Crash(api.Crash{})
	if !d.Down() || d.Append("a", "x") != api.ErrDown {
		t.Errorf("down %v", d.Down())
	}
	d.Crash(api.Crash{Keep: []int{1}, Torn: []int{1}})
	if !d.Down() {
		t.Errorf("a second one turned the power on")
	}
	d.Start()
	if d.Down() || d.Append("a", "x") != api.OK {
		t.Errorf("down %v", d.Down())
	}
}

// TestWhatACrashLeaves: of a file with two synced records and three that are not.
func TestWhatACrashLeaves(t *testing.T) {
	d := with(t, []string{"1", "22", "|", "abc", "d", "efgh"})
	for _, x := range []struct {
		keep, torn []int
		left       string
		all        int
		cut        bool
	}{
		{nil, nil, "122", 2, true}, {[]int{}, []int{}, "122", 2, true}, {[]int{0}, nil, "122", 2, true}, {[]int{0}, []int{0}, "122", 2, true},
		{[]int{1}, nil, "122abc", 3, true}, {[]int{2}, nil, "122abcd", 4, true}, {[]int{3}, nil, "122abcdefgh", 5, false},
		// Numbers below 0 and above the number of records.
		{[]int{-1}, nil, "122", 2, true}, {[]int{-2}, nil, "122", 2, true}, {[]int{math.MinInt}, nil, "122", 2, true},
		{[]int{4}, nil, "122abcdefgh", 5, false}, {[]int{5}, nil, "122abcdefgh", 5, false}, {[]int{6}, nil, "122abcdefgh", 5, false}, {[]int{math.MaxInt}, nil, "122abcdefgh", 5, false},
		// Of the record that follows.
		{nil, []int{0}, "122", 2, true}, {nil, []int{1}, "122a", 2, true}, {nil, []int{2}, "122ab", 2, true}, {nil, []int{3}, "122", 2, true}, {nil, []int{4}, "122a", 2, true}, {nil, []int{5}, "122ab", 2, true}, {nil, []int{6}, "122", 2, true},
		{nil, []int{-1}, "122ab", 2, true}, {nil, []int{-2}, "122a", 2, true}, {nil, []int{-3}, "122", 2, true}, {nil, []int{-4}, "122ab", 2, true}, {nil, []int{-6}, "122", 2, true},
		{[]int{-1}, []int{1}, "122a", 2, true}, {[]int{math.MinInt}, []int{2}, "122ab", 2, true},
		{nil, []int{math.MaxInt32}, "122a", 2, true}, {nil, []int{math.MinInt32}, "122a", 2, true}, {[]int{2}, []int{math.MaxInt}, "122abcdefg", 4, true}, {[]int{2}, []int{math.MinInt}, "122abcd", 4, true}, {[]int{2}, []int{math.MinInt + 1}, "122abcde", 4, true},
		// A record of one byte has no torn end.
		{[]int{1}, []int{0}, "122abc", 3, true}, {[]int{1}, []int{1}, "122abc", 3, true}, {[]int{1}, []int{2}, "122abc", 3, true}, {[]int{1}, []int{-1}, "122abc", 3, true}, {[]int{1}, []int{-7}, "122abc", 3, true},
		{[]int{2}, []int{1}, "122abcde", 4, true}, {[]int{2}, []int{3}, "122abcdefg", 4, true}, {[]int{2}, []int{4}, "122abcd", 4, true}, {[]int{2}, []int{-1}, "122abcdefg", 4, true},
		// There is none that follows.
		{[]int{3}, []int{1}, "122abcdefgh", 5, false}, {[]int{3}, []int{-1}, "122abcdefgh", 5, false}, {[]int{9}, []int{2}, "122abcdefgh", 5, false},
		// Choices for files that do not exist.
		{[]int{1, 0, 0}, []int{0, 1, 1}, "122abc", 3, true}, {[]int{0, 3, 3}, []int{2, 3}, "122ab", 2, true}, {[]int{3, -1}, nil, "122abcdefgh", 5, false},
	} {
		u := crashed(d, x.keep, x.torn)
		if s, _ := u.Read("a"); s != x.left {
			t.Fatalf("Keep %v, Torn %v: %q, not %q", x.keep, x.torn, s, x.left)
		}
		has(t, u, "a", x.left, x.all, x.all)
		isCut(t, u, "a", x.cut)
		lists(t, u, "a")
	}
	has(t, d, "a", "122abcdefgh", 5, 2)
}

// TestAnyChoice: of a file without synced records, or with some, by the number of records kept and of bytes torn.
func TestAnyChoice(t *testing.T) {
	records := []string{"a", "bb", "ccc", "dddd", "eeeee"}
	for synced := range len(records) {
		list := slices.Insert(slices.Clone(records), synced, "|")
		if synced == 0 {
			list = records
		}
		d := with(t, list)
		for keep := -2; keep <= 7; keep++ {
			for torn := -12; torn <= 12; torn++ {
				kept := min(synced+max(keep, 0), len(records))
				want := strings.Join(records[:kept], "")
				if kept < len(records) {
					next := records[kept]
					want += next[:((torn%len(next))+len(next))%len(next)]
				}
				u := crashed(d, []int{keep}, []int{torn})
				has(t, u, "a", want, kept, kept)
				isCut(t, u, "a", kept < len(records))
			}
		}
	}
}

// TestChoicesAreTakenInOrder: by the files that have records that are not synced, whatever lies between them.
func TestChoicesAreTakenInOrder(t *testing.T) {
	files := [][]string{{"abc", "def"}, {"S", "|"}, {"S", "|", "ghi", "jkl"}, {"T", "|"}, {"U", "V", "|"}, {"mno", "pqr"}, {"W", "|"}}
	d := with(t, files...)
	for _, x := range []struct {
		keep, torn []int
		a, c, f    string
	}{
		{nil, nil, "", "S", ""},
		{[]int{2, 2, 2}, nil, "abcdef", "Sghijkl", "mnopqr"},
		{[]int{1, 2, 0}, nil, "abc", "Sghijkl", ""},
		{[]int{0, 1, 2}, nil, "", "Sghi", "mnopqr"},
		{[]int{2, 0, 1}, []int{1, 1, 1}, "abcdef", "Sg", "mnop"},
		{[]int{1, 0}, []int{0, 2, 1}, "abc", "Sgh", "m"},
		{[]int{1}, []int{1, 2}, "abcd", "Sgh", ""},
		{nil, []int{2, 1, 0}, "ab", "Sg", ""},
		{[]int{0, 0, 1, 2, 2}, []int{0, 0, 2, 2, 2}, "", "S", "mnopq"},
		{[]int{-1, 9, 1}, []int{-1, -1, -2}, "ab", "Sghijkl", "mnop"},
		{[]int{0, 2}, []int{3, 5, 4}, "", "Sghijkl", "m"},
	} {
		u := crashed(d, x.keep, x.torn)
		for name, want := range map[string]string{"a": x.a, "b": "S", "c": x.c, "d": "T", "e": "UV", "f": x.f, "g": "W"} {
			if s, e := u.Read(name); s != want || e != api.OK {
				t.Errorf("Keep %v, Torn %v: %q read as %q, not %q", x.keep, x.torn, name, s, want)
			}
		}
		lists(t, u, "a", "b", "c", "d", "e", "f", "g")
		isCut(t, u, "a", x.a != "abcdef")
		isCut(t, u, "c", x.c != "Sghijkl")
		isCut(t, u, "f", x.f != "mnopqr")
		for _, name := range []string{"b", "d", "e", "g"} {
			isCut(t, u, name, false)
		}
	}
}

// TestChoicesGoByNames: neither by the order in which the files came, nor by their names of old.
func TestChoicesGoByNames(t *testing.T) {
	d := disk.New()
	for i, name := range []string{"z", "\xff", "m", "10", "9", "a", "aa", "Z"} {
		are(t, api.OK, d.Append(name, "x"), d.Append(name, strings.Repeat("y", i+2)))
	}
	are(t, api.OK, d.Rename("a", "zz"), d.Rename("z", "0"), d.Sync("m"))
	u := crashed(d, []int{0, 1, 2, 0, 1, 2, 0}, []int{0, 1, 1, 0, 2})
	for name, want := range map[string]string{"0": "", "10": "xy", "9": "xyyyyyy", "Z": "", "aa": "xyy", "m": "xyyyy", "zz": "xyyyyyyy", "\xff": ""} {
		if s, _ := u.Read(name); s != want {
			t.Errorf("%q read as %q, not %q", name, s, want)
		}
	}
}

func TestAFileOfWhichNothingRemains(t *testing.T) {
	d := crashed(with(t, []string{"abc"}, []string{"x"}), nil, nil)
	lists(t, d, "a", "b")
	has(t, d, "a", "", 0, 0)
	has(t, d, "b", "", 0, 0)
	are(t, api.ErrState, d.Append("a", "x"), d.Append("b", "x"))
	are(t, api.OK, d.Sync("a"), d.Rename("a", "c"), d.Delete("b"))
	lists(t, d, "c")
	are(t, api.ErrState, d.Append("c", "x"))
	are(t, api.OK, d.Append("b", "x"))
	// One of which only a torn end remains has no records either.
	u := crashed(with(t, []string{"abc"}), nil, []int{1})
	has(t, u, "a", "a", 0, 0)
	are(t, api.ErrState, u.Append("a", "x"))
}

func TestASecondCrash(t *testing.T) {
	d := crashed(with(t, []string{"abc", "|", "def", "ghi"}, []string{"jkl"}), []int{1, 1}, []int{2})
	// At once: everything that remains is synced.
	u := crashed(crashed(d, nil, nil), []int{9}, []int{1})
	has(t, u, "a", "abcdefgh", 2, 2)
	has(t, u, "b", "jkl", 1, 1)
	isCut(t, u, "a", true)
	isCut(t, u, "b", false)
	// Later: what has been appended since then may be lost. The file that is cut takes no choice.
	are(t, api.OK, u.Append("b", "mno"), u.Append("b", "pqr"), u.Append("c", "stu"))
	u = crashed(u, []int{1, 0}, []int{1, 2})
	has(t, u, "a", "abcdefgh", 2, 2)
	has(t, u, "b", "jklmnop", 2, 2)
	has(t, u, "c", "st", 0, 0)
	isCut(t, u, "a", true)
	isCut(t, u, "b", true)
	isCut(t, u, "c", true)
	// Without power in between: the second one finds nothing to lose.
	v := with(t, []string{"abc", "def"})
	v.Crash(api.Crash{Keep: []int{1}, Torn: []int{1}})
	v.Crash(api.Crash{})
	v.Start()
	has(t, v, "a", "abcd", 1, 1)
}

// TestACrashBehindAFuse: the records of before are still there to be lost.
func TestACrashBehindAFuse(t *testing.T) {
	d := with(t, []string{"abc", "|", "def"})
	d.Fuse(2)
	are(t, api.OK, d.Append("a", "ghi"))
	are(t, api.ErrDown, d.Sync("a"))
	if all, synced := d.Records("a"); all != 3 || synced != 1 {
		t.Fatalf("%d, %d", all, synced)
	}
	has(t, crashed(d, nil, nil), "a", "abc", 1, 1)
	has(t, crashed(d, []int{1}, []int{1}), "a", "abcdefg", 2, 2)
	has(t, crashed(d, []int{2}, nil), "a", "abcdefghi", 3, 3)
}

func TestAFileThatIsNotCutGrowsOn(t *testing.T) {
	d := crashed(with(t, []string{"a", "|", "b"}), []int{1}, []int{1})
	are(t, api.OK, d.Append("a", "cd"), d.Append("a", "ef"))
	has(t, d, "a", "abcdef", 4, 2)
	has(t, crashed(d, nil, nil), "a", "ab", 2, 2)
	has(t, crashed(d, []int{1}, []int{1}), "a", "abcde", 3, 3)
	has(t, crashed(d, []int{2}, []int{1}), "a", "abcdef", 4, 4)
	are(t, api.OK, d.Sync("a"))
	has(t, crashed(d, nil, nil), "a", "abcdef", 4, 4)
}

// TestChoicesAreNotChanged: nor kept.
func TestChoicesAreNotChanged(t *testing.T) {
	keep, torn := []int{-1, 1, 9, 7, 7}, []int{-1, 1, 9, 7, 7}
	c := api.Crash{Keep: keep[:3], Torn: torn[:3]}
	d := with(t, []string{"abc", "def"}, []string{"ghi", "jkl"}, []string{"mno"}, []string{"pqr"})
	d.Crash(c)
	if want := []int{-1, 1, 9, 7, 7}; !slices.Equal(keep, want) || !slices.Equal(torn, want) {
		t.Fatalf("%v, %v", keep, torn)
	}
	clear(keep)
	clear(torn)
	d.Start()
	has(t, d, "a", "ab", 0, 0)
	has(t, d, "b", "ghij", 1, 1)
	has(t, d, "c", "mno", 1, 1)
	has(t, d, "d", "", 0, 0)
}

// TestSyncedRecordsLast: over any calls, what was synced of a file is there as long as the file is, and a crash leaves a beginning of what there was.
func TestSyncedRecordsLast(t *testing.T) {
	t.Parallel()
	names := []string{"a", "b", "c"}
	for seed := range int64(600) {
		random := rand.New(rand.NewSource(seed))
		d, synced := disk.New(), map[string]string{}
		for _, x := range someCalls(random, 80, names, func(n int) string { return strings.Repeat(string(rune('A'+n%50)), 1+n%7) }) {
			before := contents(d)
			e := do(d, x)
			after := contents(d)
			follow(synced, after, x, e)
			for name, s := range synced {
				if !strings.HasPrefix(after[name], s) {
					t.Fatalf("%q lost some of %q, and is %q", name, s, after[name])
				}
			}
			if x.kind != crashes {
				continue
			}
			for name, s := range after {
				if !strings.HasPrefix(before[name], s) || len(after) != len(before) {
					t.Fatalf("%q is no beginning of %q, or a file is away", s, before[name])
				}
				synced[name] = s
			}
		}
	}
}

// contents returns what is on a disk, of which a twin is asked, as the power may be off.
func contents(d *disk.Disk) map[string]string {
	u := d.Twin()
	u.Start()
	all := map[string]string{}
	for _, name := range u.List() {
		all[name], _ = u.Read(name)
	}
	return all
}

// follow keeps what is synced by the calls that return OK.
func follow(synced, after map[string]string, x call, e api.Errno) {
	if e != api.OK {
		return
	}
	switch x.kind {
	case syncs:
		synced[x.name] = after[x.name]
	case renames:
		s := synced[x.name]
		delete(synced, x.name)
		synced[x.to] = s
	case deletes:
		delete(synced, x.name)
	}
}

// TestNumbersOfRecordsAloneDecide: two disks whose records differ in their bytes and lengths go the same way, but for the choices of bytes.
func TestNumbersOfRecordsAloneDecide(t *testing.T) {
	t.Parallel()
	names := []string{"a", "b", "c", "d"}
	for seed := range int64(600) {
		random := rand.New(rand.NewSource(seed))
		a, b := disk.New(), disk.New()
		for n, x := range someCalls(random, 80, names, func(int) string { return "x" }) {
			y := x
			if x.kind == appends {
				x.to = strings.Repeat("x", 1+random.Intn(5))
				y.to = strings.Repeat("\x00", 1+random.Intn(50))
			}
			if x.kind == crashes {
				y.c.Torn = someChoices(random, 60)
			}
			if e, f := do(a, x), do(b, y); e != f {
				t.Fatalf("the call %d returned %d on the one and %d on the other", n, e, f)
			}
			goTheSameWay(t, a, b, names)
		}
	}
}

// goTheSameWay demands that two disks tell the same, but for the contents of their files.
func goTheSameWay(t *testing.T, a, b *disk.Disk, names []string) {
	t.Helper()
	if a.Down() != b.Down() || a.Fused() != b.Fused() || !slices.Equal(a.List(), b.List()) {
		t.Fatalf("down %v, %v; fuses of %d, %d; files %q, %q", a.Down(), b.Down(), a.Fused(), b.Fused(), a.List(), b.List())
	}
	for _, name := range names {
		all, synced := a.Records(name)
		if others, othersSynced := b.Records(name); all != others || synced != othersSynced {
			t.Fatalf("%q has %d and %d records, %d and %d of them synced", name, all, others, synced, othersSynced)
		}
		_, e := a.Read(name)
		if _, f := b.Read(name); e != f {
			t.Fatalf("Read of %q returned %d and %d", name, e, f)
		}
		if e, f := appendToTwin(a, name), appendToTwin(b, name); e != f {
			t.Fatalf("Append to %q returned %d and %d", name, e, f)
		}
	}
}
