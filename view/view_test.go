package view_test

import (
	"math"
	"slices"
	"testing"

	"bellhop/api"
	"bellhop/draw"
	"bellhop/nodeset"
	"bellhop/view"
)

const self = 9

// notNodes are numbers that are no nodes.
var notNodes = []int{0, -1, -7, math.MinInt, api.MaxNode + 1, 2*api.MaxNode + 2, math.MaxInt}

// capacities are what a capacity becomes.
var capacities = []struct{ most, want int }{
	{0, 0}, {1, 1}, {2, 2}, {63, 63}, {64, 64}, {65, 64}, {1000, 64}, {math.MaxInt, 64},
	{-1, 0}, {-64, 0}, {math.MinInt, 0},
}

// nodes is a short form of a list of nodes.
func nodes(l ...int) []int {
	return l
}

// of returns a view of self that calls made, with room for so many and with these nodes.
func of(t *testing.T, active, passive int, a, p []int) view.View {
	t.Helper()
	v := view.New(self, active, passive)
	for _, n := range a {
		var ok bool
		if v, ok = v.Join(n); !ok {
			t.Fatal("no room for", n)
		}
	}
	for _, n := range p {
		v = v.Know(n, nil)
	}
	holds(t, "made", v, a, p)
	return v
}

// holds checks Self, the nodes of a view, and that it keeps its rules.
func holds(t *testing.T, name string, v view.View, active, passive []int) {
	t.Helper()
	if v.Self != self {
		t.Errorf("%s: self is %d", name, v.Self)
	}
	if got := v.Active.All(); !slices.Equal(got, active) {
		t.Errorf("%s: active %v, want %v", name, got, active)
	}
	if got := v.Passive.All(); !slices.Equal(got, passive) {
		t.Errorf("%s: passive %v, want %v", name, got, passive)
	}
	if !v.Sane() {
		t.Errorf("%s: not sane", name)
	}
}

// left checks how many numbers of a draw have not been consumed.
func left(t *testing.T, name string, d *draw.Draw, want int) {
	t.Helper()
	if d.Left() != want {
		t.Errorf("%s: %d numbers left, want %d", name, d.Left(), want)
	}
}

func TestExample(t *testing.T) {
	v, ok := view.New(1, 3, 3).Join(2)
	if !ok || !v.Active.Has(2) {
		t.Error("not active", ok)
	}
	v, n, ok := v.Evict(nil)
	if !ok || n != 2 || v.Active.Has(2) || !v.Passive.Has(2) {
		t.Error(n, ok, v)
	}
}

func TestNew(t *testing.T) {
	for _, n := range []int{1, 7, api.MaxNode, 0, -1, math.MinInt, api.MaxNode + 1, math.MaxInt} {
		v := view.New(n, 2, 2)
		if v.Self != n || v.Active.Len() != 0 || v.Passive.Len() != 0 || !v.Sane() {
			t.Error(n, v)
		}
	}
	v := view.New(self, 2, 5)
	for n := range 4 {
		v, _ = v.Join(n + 1)
	}
	for n := range 8 {
		v = v.Know(n+21, nil)
	}
	holds(t, "two capacities", v, nodes(1, 2), nodes(24, 25, 26, 27, 28))
}

func TestCapacityForActive(t *testing.T) {
	for _, x := range capacities {
		v := view.New(self, x.most, 1)
		for n := 101; n <= 170; n++ {
			var ok bool
			if v, ok = v.Join(n); ok != (n-100 <= x.want) {
				t.Errorf("capacity %d: %d: %v", x.most, n, ok)
			}
		}
		if v.Active.Len() != x.want || !v.Active.Full() || v.Passive.Full() {
			t.Error(x.most, v)
		}
	}
}

func TestCapacityForPassive(t *testing.T) {
	for _, x := range capacities {
		v, d := view.New(self, 1, x.most), draw.New(make([]uint32, 70)...)
		for n := 101; n <= 170; n++ {
			v = v.Know(n, d)
			if got := v.Passive.Len(); got != min(n-100, x.want) || v.Passive.Has(n) != (x.want > 0) {
				t.Errorf("capacity %d: %d: %v", x.most, n, v.Passive.All())
			}
		}
		if !v.Passive.Full() || v.Active.Full() {
			t.Error(x.most, v)
		}
		consumed := 0
		if x.want > 1 {
			consumed = 70 - x.want
		}
		left(t, "know", d, 70-consumed)
	}
}

func TestJoin(t *testing.T) {
	v := of(t, 3, 3, nodes(4, 6), nodes(2, 7))
	tests := []struct {
		name            string
		n               int
		ok              bool
		active, passive []int
	}{
		{"new", 5, true, nodes(4, 5, 6), nodes(2, 7)},
		{"first node", 1, true, nodes(1, 4, 6), nodes(2, 7)},
		{"last node", api.MaxNode, true, nodes(4, 6, api.MaxNode), nodes(2, 7)},
		{"passive", 7, true, nodes(4, 6, 7), nodes(2)},
		{"other passive", 2, true, nodes(2, 4, 6), nodes(7)},
		{"active", 4, true, nodes(4, 6), nodes(2, 7)},
		{"self", self, false, nodes(4, 6), nodes(2, 7)},
	}
	for _, x := range tests {
		got, ok := v.Join(x.n)
		if ok != x.ok {
			t.Errorf("%s: %v", x.name, ok)
		}
		holds(t, x.name, got, x.active, x.passive)
		holds(t, "before", v, nodes(4, 6), nodes(2, 7))
	}
}

func TestJoinFull(t *testing.T) {
	v := of(t, 2, 3, nodes(4, 6), nodes(2, 7))
	for n := range 12 {
		got, ok := v.Join(n)
		if want := n == 4 || n == 6; ok != want {
			t.Errorf("%d: %v", n, ok)
		}
		holds(t, "full", got, nodes(4, 6), nodes(2, 7))
	}
	none := of(t, 0, 3, nil, nodes(2, 7))
	for n := range 12 {
		got, ok := none.Join(n)
		if ok {
			t.Error("joined", n)
		}
		holds(t, "no capacity", got, nil, nodes(2, 7))
	}
}

func TestJoinNotNodes(t *testing.T) {
	v := of(t, 3, 3, nodes(4, 6), nodes(2, 7))
	for _, n := range notNodes {
		got, ok := v.Join(n)
		if ok {
			t.Error("joined", n)
		}
		holds(t, "not a node", got, nodes(4, 6), nodes(2, 7))
		other, ok := view.New(n, 2, 2).Join(n)
		if ok || other.Self != n || other.Active.Len() != 0 {
			t.Error("joined itself", n, other)
		}
		other, ok = other.Join(3)
		if !ok || other.Self != n || !other.Active.Has(3) || other.Active.Len() != 1 {
			t.Error("not joined", n, other)
		}
	}
}

func TestKnow(t *testing.T) {
	v, d := of(t, 2, 4, nodes(4, 6), nodes(2, 7)), draw.New(1, 1, 1)
	tests := []struct {
		name    string
		n       int
		passive []int
	}{
		{"new", 5, nodes(2, 5, 7)},
		{"first node", 1, nodes(1, 2, 7)},
		{"last node", api.MaxNode, nodes(2, 7, api.MaxNode)},
		{"passive", 7, nodes(2, 7)},
		{"other passive", 2, nodes(2, 7)},
		{"active", 4, nodes(2, 7)},
		{"other active", 6, nodes(2, 7)},
		{"self", self, nodes(2, 7)},
	}
	for _, x := range tests {
		holds(t, x.name, v.Know(x.n, d), nodes(4, 6), x.passive)
		holds(t, "before", v, nodes(4, 6), nodes(2, 7))
	}
	left(t, "there was room", d, 3)
}

func TestKnowFull(t *testing.T) {
	v := of(t, 2, 3, nodes(4), nodes(2, 7, 8))
	tests := []struct {
		x       uint32
		passive []int
	}{
		{0, nodes(5, 7, 8)}, {1, nodes(2, 5, 8)}, {2, nodes(2, 5, 7)},
		{3, nodes(5, 7, 8)}, {4, nodes(2, 5, 8)}, {math.MaxUint32 - 1, nodes(2, 5, 7)},
	}
	for _, x := range tests {
		d := draw.New(x.x, 1)
		holds(t, "full", v.Know(5, d), nodes(4), x.passive)
		left(t, "full", d, 1)
		holds(t, "before", v, nodes(4), nodes(2, 7, 8))
	}
	holds(t, "no draw", v.Know(5, nil), nodes(4), nodes(5, 7, 8))
	holds(t, "no numbers", v.Know(1, draw.New()), nodes(4), nodes(1, 7, 8))
}

// TestKnowFullInOrder gets nodes to know out of order: the draw is one of them in ascending order.
func TestKnowFullInOrder(t *testing.T) {
	v, d := view.New(self, 2, 3), draw.New(0, 2, 1)
	for _, n := range nodes(30, 10, 20) {
		v = v.Know(n, d)
	}
	left(t, "room", d, 3)
	v = v.Know(40, d)
	holds(t, "first", v, nil, nodes(20, 30, 40))
	v = v.Know(5, d)
	holds(t, "last", v, nil, nodes(5, 20, 30))
	v = v.Know(25, d)
	holds(t, "middle", v, nil, nodes(5, 25, 30))
	left(t, "full", d, 0)
}

func TestKnowChangesNothing(t *testing.T) {
	v, d := of(t, 3, 3, nodes(4, 6), nodes(2, 7, 8)), draw.New(1, 1, 1)
	for _, n := range append(nodes(4, 6, 2, 7, 8, self), notNodes...) {
		holds(t, "full", v.Know(n, d), nodes(4, 6), nodes(2, 7, 8))
	}
	none := of(t, 3, 0, nodes(4, 6), nil)
	for n := -3; n < 12; n++ {
		holds(t, "no capacity", none.Know(n, d), nodes(4, 6), nil)
	}
	for _, n := range notNodes {
		holds(t, "room", view.New(self, 1, 1).Know(n, d), nil, nil)
		if other := view.New(n, 1, 1).Know(n, d); other.Self != n || other.Passive.Len() != 0 {
			t.Error("knows itself", n, other)
		}
		if other := view.New(n, 1, 1).Know(3, d); other.Self != n || !other.Passive.Has(3) {
			t.Error("does not know 3", n, other)
		}
	}
	left(t, "nothing is removed", d, 3)
}

func TestKnowOne(t *testing.T) {
	v, d := of(t, 1, 1, nil, nodes(3)), draw.New(1, 1)
	v = v.Know(5, d)
	holds(t, "room for one", v, nil, nodes(5))
	holds(t, "room for one", v.Know(2, d), nil, nodes(2))
	left(t, "one of one", d, 2)
}

func TestForget(t *testing.T) {
	v := of(t, 3, 3, nodes(4, 6), nodes(2, 7, 8))
	tests := []struct {
		n       int
		passive []int
	}{
		{2, nodes(7, 8)}, {7, nodes(2, 8)}, {8, nodes(2, 7)},
		{1, nodes(2, 7, 8)}, {5, nodes(2, 7, 8)}, {4, nodes(2, 7, 8)}, {6, nodes(2, 7, 8)}, {self, nodes(2, 7, 8)},
	}
	for _, n := range notNodes {
		tests = append(tests, struct {
			n       int
			passive []int
		}{n, nodes(2, 7, 8)})
	}
	for _, x := range tests {
		holds(t, "forget", v.Forget(x.n), nodes(4, 6), x.passive)
		holds(t, "before", v, nodes(4, 6), nodes(2, 7, 8))
	}
	v = v.Forget(7)
	holds(t, "again", v.Forget(7), nodes(4, 6), nodes(2, 8))
	holds(t, "room again", v.Know(1, nil), nodes(4, 6), nodes(1, 2, 8))
	holds(t, "empty", view.New(self, 1, 1).Forget(2), nil, nil)
}

func TestEvict(t *testing.T) {
	v := of(t, 4, 3, nodes(3, 5, 8), nodes(4))
	tests := []struct {
		x               uint32
		n               int
		active, passive []int
	}{
		{0, 3, nodes(5, 8), nodes(3, 4)}, {1, 5, nodes(3, 8), nodes(4, 5)}, {2, 8, nodes(3, 5), nodes(4, 8)},
		{3, 3, nodes(5, 8), nodes(3, 4)}, {math.MaxUint32, 3, nodes(5, 8), nodes(3, 4)},
	}
	for _, x := range tests {
		d := draw.New(x.x, 1)
		got, n, ok := v.Evict(d)
		if n != x.n || !ok {
			t.Errorf("evicted %d, want %d: %v", n, x.n, ok)
		}
		holds(t, "evicted", got, x.active, x.passive)
		left(t, "evict", d, 1)
		holds(t, "before", v, nodes(3, 5, 8), nodes(4))
	}
	got, n, ok := v.Evict(nil)
	if n != 3 || !ok {
		t.Error(n, ok)
	}
	holds(t, "no draw", got, nodes(5, 8), nodes(3, 4))
}

// TestEvictFull: the active node is drawn first, then the passive one that makes room.
func TestEvictFull(t *testing.T) {
	v, d := of(t, 3, 3, nodes(3, 5, 8), nodes(2, 4, 6)), draw.New(2, 1, 7)
	got, n, ok := v.Evict(d)
	if n != 8 || !ok {
		t.Error(n, ok)
	}
	holds(t, "full", got, nodes(3, 5), nodes(2, 6, 8))
	left(t, "full", d, 1)
	holds(t, "before", v, nodes(3, 5, 8), nodes(2, 4, 6))

	v, d = of(t, 3, 0, nodes(3, 5, 8), nil), draw.New(1, 7)
	got, n, ok = v.Evict(d)
	if n != 5 || !ok {
		t.Error(n, ok)
	}
	holds(t, "no capacity for passive", got, nodes(3, 8), nil)
	left(t, "no capacity for passive", d, 1)

	v, d = of(t, 3, 2, nodes(3), nodes(2, 4)), draw.New(1, 7)
	got, n, ok = v.Evict(d)
	if n != 3 || !ok {
		t.Error(n, ok)
	}
	holds(t, "one of one", got, nil, nodes(2, 3))
	left(t, "one of one", d, 1)
}

func TestEvictNone(t *testing.T) {
	d := draw.New(1, 1)
	for _, v := range []view.View{of(t, 3, 2, nil, nodes(2, 4)), of(t, 0, 2, nil, nodes(2, 4))} {
		got, n, ok := v.Evict(d)
		if n != 0 || ok {
			t.Error(n, ok)
		}
		holds(t, "none is active", got, nil, nodes(2, 4))
		if got.Active.Full() != v.Active.Full() {
			t.Error("other capacity")
		}
	}
	left(t, "none is active", d, 2)
}

func TestLeave(t *testing.T) {
	v, d := of(t, 3, 3, nodes(3, 5, 8), nodes(4)), draw.New(1, 1)
	tests := []struct {
		n               int
		active, passive []int
	}{
		{3, nodes(5, 8), nodes(3, 4)}, {5, nodes(3, 8), nodes(4, 5)}, {8, nodes(3, 5), nodes(4, 8)},
	}
	for _, x := range tests {
		got, ok := v.Leave(x.n, true, d)
		if !ok {
			t.Error("was active", x.n)
		}
		holds(t, "keep", got, x.active, x.passive)
		got, ok = v.Leave(x.n, false, d)
		if !ok {
			t.Error("was active", x.n)
		}
		holds(t, "do not keep", got, x.active, nodes(4))
		holds(t, "before", v, nodes(3, 5, 8), nodes(4))
	}
	left(t, "there was room", d, 2)
}

func TestLeaveFull(t *testing.T) {
	v, d := of(t, 3, 3, nodes(3, 5, 8), nodes(2, 4, 6)), draw.New(1, 2, 7)
	got, ok := v.Leave(5, true, d)
	if !ok {
		t.Error("was active")
	}
	holds(t, "keep", got, nodes(3, 8), nodes(2, 5, 6))
	left(t, "keep", d, 2)
	got, ok = v.Leave(5, false, d)
	if !ok {
		t.Error("was active")
	}
	holds(t, "do not keep", got, nodes(3, 8), nodes(2, 4, 6))
	left(t, "do not keep", d, 2)
	got, ok = of(t, 3, 0, nodes(3, 5), nil).Leave(5, true, d)
	if !ok {
		t.Error("was active")
	}
	holds(t, "no capacity for passive", got, nodes(3), nil)
	left(t, "no capacity for passive", d, 2)
}

func TestLeaveNotActive(t *testing.T) {
	v, d := of(t, 3, 3, nodes(3, 5), nodes(2, 4, 6)), draw.New(1, 2, 7)
	for _, n := range append(nodes(2, 4, 6, 1, 7, 8, self, api.MaxNode), notNodes...) {
		for _, keep := range []bool{true, false} {
			got, ok := v.Leave(n, keep, d)
			if ok {
				t.Error("was not active", n, keep)
			}
			holds(t, "not active", got, nodes(3, 5), nodes(2, 4, 6))
		}
	}
	if got, ok := view.New(self, 0, 0).Leave(3, true, d); ok || got.Active.Len() != 0 || got.Passive.Len() != 0 {
		t.Error(ok, got)
	}
	left(t, "not active", d, 3)
}

func TestSane(t *testing.T) {
	set := func(l ...int) nodeset.Set {
		s := nodeset.New(5)
		for _, n := range l {
			s, _ = s.Add(n)
		}
		return s
	}
	tests := []struct {
		name            string
		active, passive nodeset.Set
		want            bool
	}{
		{"zero sets", nodeset.Set{}, nodeset.Set{}, true},
		{"empty", set(), set(), true},
		{"only active", set(1, 2), set(), true},
		{"only passive", set(), set(1, 2), true},
		{"others", set(1, 8, 30), set(2, 7, 40), true},
		{"full", set(1, 2, 3, 4, 5), set(6, 7, 8, 10, 11), true},
		{"self is active", set(1, self), set(2), false},
		{"only self is active", set(self), set(), false},
		{"self is passive", set(1), set(2, self), false},
		{"only self is passive", set(), set(self), false},
		{"self is both", set(self), set(self), false},
		{"first is both", set(1, 4, 7), set(1, 5, 8), false},
		{"middle is both", set(1, 4, 7), set(2, 4, 8), false},
		{"last is both", set(1, 4, 8), set(2, 5, 8), false},
		{"first is the last one", set(5, 6, 7), set(1, 2, 5), false},
		{"last is the first one", set(1, 2, 5), set(5, 6, 7), false},
		{"the only ones", set(api.MaxNode), set(api.MaxNode), false},
		{"all are both", set(1, 2, 3), set(1, 2, 3), false},
	}
	for _, x := range tests {
		v := view.View{Self: self, Active: x.active, Passive: x.passive}
		if v.Sane() != x.want {
			t.Errorf("%s: %v", x.name, !x.want)
		}
	}
	if !(view.View{Self: 3, Active: set(self), Passive: set(1)}).Sane() {
		t.Error("of another node")
	}
}

// TestViewsAreNotModified changes a view in all ways, and then what came of it.
func TestViewsAreNotModified(t *testing.T) {
	v := of(t, 4, 4, nodes(2, 4, 6), nodes(3, 5))
	for n := range 12 {
		d := draw.New(uint32(n), 1, 2, 3, 4, 5, 6)
		joined, _ := v.Join(n)
		left, _ := v.Leave(n, true, d)
		lost, _ := v.Leave(n, false, d)
		evicted, _, _ := v.Evict(d)
		for _, x := range []view.View{joined, left, lost, evicted, v.Know(n, d), v.Forget(n)} {
			a, p := x.Active.All(), x.Passive.All()
			for m := range 12 {
				y, _ := x.Join(m)
				y = y.Know(m+1, d).Forget(m + 2)
				y, _, _ = y.Evict(d)
				y.Leave(m+3, true, d)
			}
			holds(t, "second", x, a, p)
		}
		holds(t, "first", v, nodes(2, 4, 6), nodes(3, 5))
	}
}

// model of a view: the state of each node, kept in plain lists.
type model struct {
	maxActive, maxPassive int
	active, passive       []int
}

func (m *model) join(n int) bool {
	in := slices.Contains(m.active, n)
	if n == self || n < 1 || !in && len(m.active) >= m.maxActive {
		return false
	}
	if !in {
		m.active = append(m.active, n)
	}
	m.forget(n)
	return true
}

func (m *model) know(n int, x uint32) {
	if n == self || n < 1 || slices.Contains(m.active, n) || slices.Contains(m.passive, n) || m.maxPassive == 0 {
		return
	}
	slices.Sort(m.passive)
	if k := len(m.passive); k >= m.maxPassive {
		m.forget(m.passive[int(x)%k])
	}
	m.passive = append(m.passive, n)
}

func (m *model) forget(n int) {
	m.passive = slices.DeleteFunc(m.passive, func(p int) bool { return p == n })
}

func (m *model) leave(n int, keep bool, x uint32) bool {
	if !slices.Contains(m.active, n) {
		return false
	}
	m.active = slices.DeleteFunc(m.active, func(a int) bool { return a == n })
	if keep {
		m.know(n, x)
	}
	return true
}

func (m *model) evict(x uint32) (int, bool) {
	if len(m.active) == 0 {
		return 0, false
	}
	slices.Sort(m.active)
	n := m.active[int(x)%len(m.active)]
	m.leave(n, true, x)
	return n, true
}

// TestManySteps holds views against a model that is kept in plain lists.
func TestManySteps(t *testing.T) {
	for _, x := range [][2]int{{0, 0}, {0, 2}, {2, 0}, {1, 1}, {3, 4}, {5, 3}, {10, 20}} {
		v, m := view.New(self, x[0], x[1]), &model{maxActive: x[0], maxPassive: x[1]}
		r := uint32(x[0]*31 + x[1])
		for range 4000 {
			r = r*1664525 + 1013904223
			n, choice := int(r>>16)%(x[0]+x[1]+12), r>>4&0xff
			// Both draws of a step are the same number, so that it does not matter to the model how many there are.
			d := draw.New(choice, choice)
			var ok, want bool
			var out, wantOut int
			switch r >> 13 & 7 {
			case 0, 1:
				v, ok = v.Join(n)
				want = m.join(n)
			case 2:
				v, out, ok = v.Evict(d)
				wantOut, want = m.evict(choice)
			case 3:
				v, ok = v.Leave(n, choice&8 == 0, d)
				want = m.leave(n, choice&8 == 0, choice)
			case 4:
				v = v.Forget(n)
				m.forget(n)
			default:
				v = v.Know(n, d)
				m.know(n, choice)
			}
			slices.Sort(m.active)
			slices.Sort(m.passive)
			holds(t, "steps", v, m.active, m.passive)
			if ok != want || out != wantOut {
				t.Fatal(x, n, ok, want, out, wantOut)
			}
		}
	}
}
