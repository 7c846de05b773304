package conf_test

import (
	"slices"
	"testing"

	"wapentake/api"
	"wapentake/conf"
)

func TestOf(t *testing.T) {
	for _, x := range []struct {
		nodes []uint8
		want  uint8
	}{
		{nil, 0},
		{[]uint8{}, 0},
		{[]uint8{1, 3, 9}, 5},
		{[]uint8{1}, 1},
		{[]uint8{2}, 2},
		{[]uint8{5}, 16},
		{[]uint8{1, 2, 3, 4, 5}, 31},
		{[]uint8{5, 4, 3, 2, 1}, 31},
		{[]uint8{3, 3}, 4},
		{[]uint8{3, 3, 3}, 4},
		{[]uint8{4, 1, 4, 1}, 9},
		{[]uint8{0}, 0},
		{[]uint8{6}, 0},
		{[]uint8{255}, 0},
		{[]uint8{0, 6, 255}, 0},
		{[]uint8{0, 2, 6, 255, 4}, 10},
		{[]uint8{255, 5}, 16},
		{[]uint8{6, 7, 8, 9, 16, 17, 32, 33, 64, 65, 128, 129, 254}, 0},
	} {
		if got := conf.Of(x.nodes...); got != x.want {
			t.Errorf("Of(%v): %d, not %d", x.nodes, got, x.want)
		}
	}
}

func TestOfAnyThreeNumbers(t *testing.T) {
	for a := range 256 {
		for b := range 256 {
			for _, c := range []int{0, 1, 3, 5, 6, a, b} {
				s := set{}
				for _, node := range []int{a, b, c} {
					if node >= 1 && node <= 5 {
						s[node] = true
					}
				}
				if got := conf.Of(uint8(a), uint8(b), uint8(c)); got != bitsOf(s) {
					t.Fatalf("Of(%d, %d, %d): %d, not %d", a, b, c, got, bitsOf(s))
				}
			}
		}
	}
}

func TestOfManyNumbers(t *testing.T) {
	var all []uint8
	for range 100 {
		for n := range 256 {
			all = append(all, uint8(n))
		}
	}
	kept := slices.Clone(all)
	if got := conf.Of(all...); got != 31 {
		t.Errorf("Of all numbers: %d", got)
	}
	if !slices.Equal(all, kept) {
		t.Error("Of changed its arguments")
	}
}

func TestHas(t *testing.T) {
	if conf.Has(5, 2) || !conf.Has(5, 3) {
		t.Error("Has is not as in the chapter")
	}
	for m := range 256 {
		for node := range 256 {
			want := members(uint8(m))[node]
			if got := conf.Has(uint8(m), uint8(node)); got != want {
				t.Errorf("Has(%d, %d): %v", m, node, got)
			}
		}
	}
}

func TestList(t *testing.T) {
	for _, x := range []struct {
		m    uint8
		want []uint8
	}{{5, []uint8{1, 3}}, {0, nil}, {16, []uint8{5}}, {31, []uint8{1, 2, 3, 4, 5}}, {224, nil}, {255, []uint8{1, 2, 3, 4, 5}}} {
		if got := conf.List(x.m); !slices.Equal(got, x.want) {
			t.Errorf("List(%d): %v, not %v", x.m, got, x.want)
		}
	}
}

func TestListOfEveryMembership(t *testing.T) {
	for m := range 256 {
		var want []uint8
		for node := 1; node <= 5; node++ {
			if members(uint8(m))[node] {
				want = append(want, uint8(node))
			}
		}
		got := conf.List(uint8(m))
		if !slices.Equal(got, want) {
			t.Errorf("List(%d): %v, not %v", m, got, want)
		}
		if back := conf.Of(got...); int(back) != m%32 {
			t.Errorf("Of what List(%d) tells: %d", m, back)
		}
	}
}

func TestListsAreNewEachTime(t *testing.T) {
	for m := range 256 {
		a, b := conf.List(uint8(m)), conf.List(uint8(m))
		want := slices.Clone(b)
		clear(a[:cap(a)])
		if !slices.Equal(b, want) || !slices.Equal(conf.List(uint8(m)), want) {
			t.Fatalf("List(%d): a change of one answer changed another one", m)
		}
	}
}

func TestNear(t *testing.T) {
	for _, x := range []struct {
		a, b uint8
		want bool
	}{
		{7, 5, true}, {7, 7, true}, {7, 25, false},
		{7, 39, true}, {39, 7, true}, {7, 231, true}, {0, 224, true}, {0, 255, false},
		{7, 128 + 5, true}, {7, 64 + 1, false},
		{0, 0, true}, {0, 16, true}, {0, 17, false}, {1, 2, false}, {31, 15, true}, {31, 7, false},
	} {
		if got := conf.Near(x.a, x.b); got != x.want {
			t.Errorf("Near(%d, %d): %v", x.a, x.b, got)
		}
	}
}

func TestNearOfEveryTwo(t *testing.T) {
	for a := range 256 {
		for b := range 256 {
			want := apart(members(uint8(a)), members(uint8(b))) <= 1
			if got := conf.Near(uint8(a), uint8(b)); got != want {
				t.Errorf("Near(%d, %d): %v", a, b, got)
			}
		}
	}
}

func TestAddAndOut(t *testing.T) {
	for _, x := range []struct {
		name    string
		call    func(m, node uint8) (uint8, api.Errno)
		m, node uint8
		want    uint8
		e       api.Errno
	}{
		{"Add", conf.Add, 5, 2, 7, api.OK},
		{"Add", conf.Add, 5, 1, 0, api.ErrThere},
		{"Add", conf.Add, 5, 6, 0, api.ErrArg},
		{"Add", conf.Add, 5, 0, 0, api.ErrArg},
		{"Add", conf.Add, 255, 0, 0, api.ErrArg},
		{"Add", conf.Add, 255, 6, 0, api.ErrArg},
		{"Add", conf.Add, 255, 255, 0, api.ErrArg},
		{"Add", conf.Add, 255, 5, 0, api.ErrThere},
		{"Add", conf.Add, 0, 5, 16, api.OK},
		{"Add", conf.Add, 224, 1, 1, api.OK},
		{"Add", conf.Add, 37, 2, 7, api.OK},
		{"Out", conf.Out, 7, 1, 6, api.OK},
		{"Out", conf.Out, 6, 1, 0, api.ErrNone},
		{"Out", conf.Out, 7, 0, 0, api.ErrArg},
		{"Out", conf.Out, 7, 6, 0, api.ErrArg},
		{"Out", conf.Out, 255, 6, 0, api.ErrArg},
		{"Out", conf.Out, 0, 255, 0, api.ErrArg},
		{"Out", conf.Out, 0, 5, 0, api.ErrNone},
		{"Out", conf.Out, 224, 5, 0, api.ErrNone},
		{"Out", conf.Out, 16, 5, 0, api.OK},
		{"Out", conf.Out, 255, 3, 27, api.OK},
	} {
		if got, e := x.call(x.m, x.node); got != x.want || e != x.e {
			t.Errorf("%s(%d, %d): %d, %d, not %d, %d", x.name, x.m, x.node, got, e, x.want, x.e)
		}
	}
}

func TestAddAndOutOfEveryTwo(t *testing.T) {
	for m := range 256 {
		for node := range 256 {
			isNode, isThere := node >= 1 && node <= 5, members(uint8(m))[node]
			s := members(uint8(m))
			var more, less uint8
			added, taken := api.ErrThere, api.ErrNone
			switch {
			case !isNode:
				added, taken = api.ErrArg, api.ErrArg
			case isThere:
				delete(s, node)
				less, taken = bitsOf(s), api.OK
			default:
				s[node] = true
				more, added = bitsOf(s), api.OK
			}
			if got, e := conf.Add(uint8(m), uint8(node)); got != more || e != added {
				t.Errorf("Add(%d, %d): %d, %d, not %d, %d", m, node, got, e, more, added)
			}
			if got, e := conf.Out(uint8(m), uint8(node)); got != less || e != taken {
				t.Errorf("Out(%d, %d): %d, %d, not %d, %d", m, node, got, e, less, taken)
			}
		}
	}
}
