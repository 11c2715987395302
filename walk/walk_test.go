package walk_test

import (
	"math"
	"slices"
	"testing"

	"bellhop/api"
	"bellhop/draw"
	"bellhop/view"
	"bellhop/walk"
)

const self = 9

// end is a step that ends at the node.
var end = walk.Step{End: true}

// notNodes are numbers that are no nodes.
var notNodes = []int{0, -1, -7, math.MinInt, api.MaxNode + 1, 2*api.MaxNode + 2, math.MaxInt}

// next returns a step to this node.
func next(n int) walk.Step {
	return walk.Step{Next: n}
}

// of returns a view of self with these active nodes and some passive ones.
func of(t *testing.T, active ...int) view.View {
	t.Helper()
	v := view.New(self, 10, 10)
	for _, n := range active {
		var ok bool
		if v, ok = v.Join(n); !ok {
			t.Fatal("no room for", n)
		}
	}
	for _, n := range []int{50, 60, 70} {
		v = v.Know(n, nil)
	}
	return v
}

// checks compares a step, and how many numbers of the draw it has left.
func checks(t *testing.T, name string, got, want walk.Step, d *draw.Draw, left int) {
	t.Helper()
	if got != want {
		t.Errorf("%s: %+v, want %+v", name, got, want)
	}
	if d.Left() != left {
		t.Errorf("%s: %d numbers left, want %d", name, d.Left(), left)
	}
}

func TestExample(t *testing.T) {
	d := draw.New(1)
	checks(t, "join", walk.Join(of(t), 2, 3, 5, 5, d), end, d, 1)
	checks(t, "mix", walk.Mix(of(t), 2, 3, 5, d), end, d, 1)
	checks(t, "join, new view", walk.Join(view.New(self, 3, 3), 2, 3, 5, 5, d), end, d, 1)
	checks(t, "mix, new view", walk.Mix(view.New(self, 3, 3), 2, 3, 5, d), end, d, 1)
}

// TestDraw: one of the active nodes other than the two, in ascending order.
func TestDraw(t *testing.T) {
	v := of(t, 30, 4, 8, 20, 6)
	tests := []struct {
		name       string
		from, node int
		want       []int
	}{
		{"neither is active", 1, 2, []int{4, 6, 8, 20, 30}},
		{"from is active", 6, 2, []int{4, 8, 20, 30}},
		{"node is active", 1, 20, []int{4, 6, 8, 30}},
		{"both are active", 30, 4, []int{6, 8, 20}},
		{"both are the same", 8, 8, []int{4, 6, 20, 30}},
		{"both are self", self, self, []int{4, 6, 8, 20, 30}},
		{"node is self", 4, self, []int{6, 8, 20, 30}},
		{"both are passive", 50, 60, []int{4, 6, 8, 20, 30}},
		{"not nodes", 0, api.MaxNode + 1, []int{4, 6, 8, 20, 30}},
		{"other numbers", math.MinInt, math.MaxInt, []int{4, 6, 8, 20, 30}},
	}
	for _, x := range tests {
		for i := range 3 * len(x.want) {
			want := next(x.want[i%len(x.want)])
			d := draw.New(uint32(i), 7)
			checks(t, x.name, walk.Join(v, x.from, x.node, 2, 1, d), want, d, 1)
			d = draw.New(uint32(i), 7)
			checks(t, x.name, walk.Mix(v, x.from, x.node, 2, d), want, d, 1)
		}
		checks(t, x.name, walk.Join(v, x.from, x.node, 2, 1, nil), next(x.want[0]), nil, 0)
		checks(t, x.name, walk.Mix(v, x.from, x.node, 2, draw.New()), next(x.want[0]), nil, 0)
	}
	if !slices.Equal(v.Active.All(), []int{4, 6, 8, 20, 30}) || !slices.Equal(v.Passive.All(), []int{50, 60, 70}) {
		t.Error("modified", v)
	}
}

func TestFewActive(t *testing.T) {
	tests := []struct {
		name       string
		active     []int
		from, node int
		join, mix  walk.Step
	}{
		{"none", nil, 1, 2, end, end},
		{"one", []int{4}, 1, 2, end, next(4)},
		{"one, the last node", []int{api.MaxNode}, 1, 2, end, next(api.MaxNode)},
		{"one, is from", []int{4}, 4, 2, end, end},
		{"one, is node", []int{4}, 1, 4, end, end},
		{"one, is both", []int{4}, 4, 4, end, end},
		{"one, not nodes", []int{4}, 0, -1, end, next(4)},
		{"two, from and node", []int{4, 6}, 4, 6, end, end},
		{"two, node and from", []int{4, 6}, 6, 4, end, end},
		{"two, is from", []int{4, 6}, 4, 2, next(6), next(6)},
		{"two, is node", []int{4, 6}, 1, 6, next(4), next(4)},
		{"two, is both", []int{4, 6}, 6, 6, next(4), next(4)},
		{"three, from and node", []int{4, 6, 8}, 4, 8, next(6), next(6)},
	}
	for _, x := range tests {
		d := draw.New(1)
		checks(t, x.name, walk.Join(of(t, x.active...), x.from, x.node, 3, 2, d), x.join, d, 1)
		checks(t, x.name, walk.Mix(of(t, x.active...), x.from, x.node, 3, d), x.mix, d, 1)
	}
	d := draw.New(1, 8)
	checks(t, "two others", walk.Join(of(t, 4, 6), 1, 2, 3, 2, d), next(6), d, 1)
	checks(t, "two others", walk.Mix(of(t, 4, 6), 1, 2, 3, d), next(4), d, 0)
}

func TestStepsLeft(t *testing.T) {
	v := of(t, 4, 6, 8)
	for _, left := range []int{0, -1, -2, math.MinInt} {
		for _, know := range []int{left, 0, 1, 5} {
			d := draw.New(1)
			checks(t, "join, none left", walk.Join(v, 1, 2, left, know, d), end, d, 1)
		}
		d := draw.New(1)
		checks(t, "mix, none left", walk.Mix(v, 1, 2, left, d), end, d, 1)
	}
	for _, left := range []int{1, 2, 3, api.MaxWalk, api.MaxWalk + 1, math.MaxInt} {
		d := draw.New(1, 2)
		checks(t, "join, some left", walk.Join(v, 1, 2, left, 0, d), next(6), d, 1)
		checks(t, "mix, some left", walk.Mix(v, 1, 2, left, d), next(8), d, 0)
	}
}

func TestKnow(t *testing.T) {
	v := of(t, 4, 6, 8)
	for _, left := range []int{1, 2, 3, api.MaxWalk, math.MaxInt} {
		for _, know := range []int{-1, 0, 1, 2, 3, api.MaxWalk, math.MinInt, math.MaxInt} {
			d := draw.New(1)
			want := walk.Step{Next: 6, Know: left == know}
			checks(t, "continues", walk.Join(v, 1, 2, left, know, d), want, d, 0)
		}
	}
	for _, active := range [][]int{nil, {4}, {6}, {2}, {4, 6}} {
		d := draw.New(1)
		checks(t, "ends", walk.Join(of(t, active...), 4, 6, 3, 3, d), end, d, 1)
	}
	for left := range 5 {
		if walk.Mix(v, left, left, left, nil).Know {
			t.Error("known by a sample's walk", left)
		}
	}
}

func TestNotNodes(t *testing.T) {
	v := of(t, 4, 6)
	for _, n := range notNodes {
		for _, m := range notNodes {
			d := draw.New(1, 1)
			checks(t, "join", walk.Join(v, n, m, 1, 1, d), walk.Step{Next: 6, Know: true}, d, 1)
			checks(t, "mix", walk.Mix(v, n, m, 1, d), next(6), d, 0)
		}
	}
	for _, v := range []view.View{view.New(0, 0, 0), view.New(math.MaxInt, -1, -1)} {
		for _, n := range notNodes {
			d := draw.New(1)
			checks(t, "join, no view", walk.Join(v, n, n, n, n, d), end, d, 1)
			checks(t, "mix, no view", walk.Mix(v, n, n, n, d), end, d, 1)
		}
	}
}
