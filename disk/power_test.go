package disk_test

import (
	"math"
	"strings"
	"testing"

	"wapentake/api"
	"wapentake/disk"
)

// operations are one of each kind, and of each thing that it may do, on the disk of operated.
var operations = []call{
	{kind: appends, name: "a", to: "x"}, {kind: appends, name: "c", to: "x"}, {kind: appends, name: "new", to: "x"},
	{kind: syncs, name: "a"}, {kind: syncs, name: "b"}, {kind: syncs, name: "cut"},
	{kind: renames, name: "a", to: "a"}, {kind: renames, name: "a", to: "b"}, {kind: renames, name: "b", to: "new"}, {kind: renames, name: "cut", to: "a"},
	{kind: deletes, name: "a"}, {kind: deletes, name: "b"}, {kind: deletes, name: "cut"},
}

// failures are calls that fail on the disk of operated: they are no operations.
var failures = []struct {
	call
	want api.Errno
}{
	{call{kind: appends, name: "", to: "x"}, api.ErrArg}, {call{kind: appends, name: "a", to: ""}, api.ErrArg}, {call{kind: appends, name: "cut", to: ""}, api.ErrArg},
	{call{kind: appends, name: strings.Repeat("n", 33), to: "x"}, api.ErrArg}, {call{kind: appends, name: "cut", to: "x"}, api.ErrState},
	{call{kind: syncs, name: "none"}, api.ErrNone}, {call{kind: syncs, name: ""}, api.ErrNone},
	{call{kind: renames, name: "a", to: ""}, api.ErrArg}, {call{kind: renames, name: "none", to: ""}, api.ErrArg}, {call{kind: renames, name: "a", to: strings.Repeat("n", 33)}, api.ErrArg},
	{call{kind: renames, name: "none", to: "a"}, api.ErrNone}, {call{kind: renames, name: "none", to: "none"}, api.ErrNone}, {call{kind: renames, name: "", to: "a"}, api.ErrNone},
	{call{kind: deletes, name: "none"}, api.ErrNone}, {call{kind: deletes, name: ""}, api.ErrNone},
}

// operated returns a disk with files of every sort, and the model of it.
func operated(t *testing.T) (*disk.Disk, *model) {
	t.Helper()
	d, m := disk.New(), &model{}
	for _, x := range []call{
		{kind: appends, name: "cut", to: "1"}, {kind: syncs, name: "cut"}, {kind: appends, name: "cut", to: "22"}, {kind: crashes, c: api.Crash{Torn: []int{1}}}, {kind: starts},
		{kind: appends, name: "a", to: "3"}, {kind: syncs, name: "a"}, {kind: appends, name: "a", to: "4"}, {kind: appends, name: "b", to: "5"}, {kind: syncs, name: "b"}, {kind: appends, name: "c", to: "6"},
	} {
		are(t, api.OK, do(d, x), m.do(x))
	}
	return d, m
}

var fileNames = []string{"a", "b", "c", "cut", "new", "none", ""}

func TestEachOperationIsOne(t *testing.T) {
	for _, x := range operations {
		d, m := operated(t)
		d.Fuse(2)
		are(t, api.OK, do(d, x))
		if d.Fused() != 1 || d.Down() {
			t.Fatalf("%v: a fuse of %d, down %v", x, d.Fused(), d.Down())
		}
		m.fuse = 2
		are(t, api.OK, m.do(x))
		m.isAs(t, d, fileNames)
	}
}

func TestAnOperationAtTheFusesEnd(t *testing.T) {
	for _, x := range operations {
		d, m := operated(t)
		d.Fuse(1)
		are(t, api.ErrDown, do(d, x))
		if !d.Down() || d.Fused() != 0 {
			t.Fatalf("%v: down %v, a fuse of %d", x, d.Down(), d.Fused())
		}
		// It had no effect, and afterwards there is no fuse.
		m.off = true
		m.isAs(t, d, fileNames)
		d.Start()
		m.off = false
		m.isAs(t, d, fileNames)
		for range 3 {
			are(t, api.OK, do(d, call{kind: syncs, name: "b"}))
		}
		are(t, api.OK, do(d, x))
	}
}

func TestWhatFailsDoesNotBurnTheFuse(t *testing.T) {
	for _, x := range failures {
		for n := range 3 {
			d, m := operated(t)
			d.Fuse(n)
			m.fuse = n
			for range 3 {
				are(t, x.want, do(d, x.call), m.do(x.call))
				m.isAs(t, d, fileNames)
			}
		}
	}
}

func TestFuses(t *testing.T) {
	for n := 1; n <= 20; n++ {
		d := with(t, []string{"1"})
		d.Fuse(n)
		for k := range n {
			if d.Fused() != n-k || d.Down() {
				t.Fatalf("a fuse of %d, behind %d operations: %d, down %v", n, k, d.Fused(), d.Down())
			}
			want := api.OK
			if k == n-1 {
				want = api.ErrDown
			}
			are(t, want, d.Append("a", "x"))
		}
		if d.Fused() != 0 || !d.Down() {
			t.Fatalf("a fuse of %d at its end: %d, down %v", n, d.Fused(), d.Down())
		}
		d.Start()
		has(t, d, "a", "1"+strings.Repeat("x", n-1), n, 0)
	}
}

func TestAFuseOfMoreThanThereAreOperations(t *testing.T) {
	for _, n := range []int{100, math.MaxInt32, math.MaxInt} {
		d := disk.New()
		d.Fuse(n)
		for range 50 {
			are(t, api.OK, d.Append("a", "x"))
		}
		if d.Fused() != n-50 || d.Down() {
			t.Errorf("%d, down %v", d.Fused(), d.Down())
		}
	}
}

func TestNoFuse(t *testing.T) {
	for _, n := range []int{0, -1, -2, math.MinInt32, math.MinInt} {
		d := disk.New()
		d.Fuse(n)
		if d.Fused() != 0 {
			t.Fatalf("Fuse(%d): %d", n, d.Fused())
		}
		are(t, api.OK, d.Append("a", "x"), d.Append("a", "x"), d.Sync("a"))
		// It removes one, too.
		d.Fuse(1)
		d.Fuse(n)
		if d.Fused() != 0 || d.Down() {
			t.Fatalf("Fuse(%d): %d, down %v", n, d.Fused(), d.Down())
		}
		are(t, api.OK, d.Append("a", "x"), d.Delete("a"))
	}
}

func TestAnotherFuseReplacesTheFirst(t *testing.T) {
	for _, first := range []int{1, 2, 9} {
		for _, second := range []int{1, 2, 9} {
			d := with(t, []string{"1"})
			d.Fuse(first)
			d.Fuse(second)
			if d.Fused() != second {
				t.Fatalf("%d, not %d", d.Fused(), second)
			}
			for range second - 1 {
				are(t, api.OK, d.Sync("a"))
			}
			are(t, api.ErrDown, d.Sync("a"))
		}
	}
}

func TestAFuseIsKeptOverACrash(t *testing.T) {
	d := with(t, []string{"1", "|", "2"})
	d.Fuse(3)
	are(t, api.OK, d.Sync("a"))
	d.Crash(api.Crash{})
	if d.Fused() != 2 {
		t.Fatalf("a fuse of %d", d.Fused())
	}
	// Nothing is an operation while the power is off.
	are(t, api.ErrDown, d.Append("a", "x"), d.Sync("a"), d.Rename("a", "b"), d.Delete("a"))
	if _, e := d.Read("a"); e != api.ErrDown || d.Fused() != 2 {
		t.Fatalf("%d, a fuse of %d", e, d.Fused())
	}
	d.Crash(api.Crash{})
	d.Start()
	if d.Fused() != 2 || d.Down() {
		t.Fatalf("a fuse of %d, down %v", d.Fused(), d.Down())
	}
	are(t, api.OK, d.Append("a", "x"))
	are(t, api.ErrDown, d.Append("a", "x"))
	has(t, crashed(d, []int{1}, nil), "a", "12x", 3, 3)
}

func TestAFuseWhileThePowerIsOff(t *testing.T) {
	d := with(t, []string{"1"})
	d.Crash(api.Crash{Keep: []int{1}})
	d.Fuse(2)
	if d.Fused() != 2 || !d.Down() {
		t.Fatalf("a fuse of %d, down %v", d.Fused(), d.Down())
	}
	are(t, api.ErrDown, d.Sync("a"), d.Sync("a"), d.Sync("a"))
	d.Start()
	are(t, api.OK, d.Sync("a"))
	are(t, api.ErrDown, d.Sync("a"))
	d.Fuse(5)
	d.Fuse(0)
	d.Start()
	are(t, api.OK, d.Sync("a"), d.Sync("a"), d.Sync("a"), d.Sync("a"), d.Sync("a"))
}

func TestWithoutPower(t *testing.T) {
	for _, how := range []func(d *disk.Disk, m *model){
		func(d *disk.Disk, m *model) { d.Fuse(1); d.Sync("b"); m.off = true },
		func(d *disk.Disk, m *model) { d.Crash(api.Crash{}); m.crash(api.Crash{}) },
	} {
		d, m := operated(t)
		how(d, m)
		d.Fuse(2)
		m.fuse = 2
		for _, x := range operations {
			are(t, api.ErrDown, do(d, x))
		}
		for _, x := range failures {
			are(t, api.ErrDown, do(d, x.call))
		}
		for _, name := range append(noNames(), fileNames...) {
			if s, e := d.Read(name); s != "" || e != api.ErrDown {
				t.Fatalf("%.40q read as %q, %d", name, s, e)
			}
		}
		m.isAs(t, d, fileNames)
		d.Start()
		m.off = false
		m.isAs(t, d, fileNames)
	}
}

func TestStart(t *testing.T) {
	d := with(t, []string{"1", "|", "2"})
	d.Start()
	if d.Down() {
		t.Fatal("down")
	}
	// Power that is lost does not take anything with it, unless there is a crash.
	d.Fuse(1)
	are(t, api.ErrDown, d.Append("a", "3"))
	for range 3 {
		d.Start()
		has(t, d, "a", "12", 2, 1)
	}
	d.Fuse(4)
	d.Start()
	if d.Fused() != 4 {
		t.Fatalf("a fuse of %d", d.Fused())
	}
	are(t, api.OK, d.Append("a", "3"))
	has(t, d, "a", "123", 3, 1)
}
