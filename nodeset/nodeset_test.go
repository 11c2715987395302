package nodeset_test

import (
	"math"
	"slices"
	"testing"

	"bellhop/api"
	"bellhop/nodeset"
)

// notNodes are numbers that are no nodes.
var notNodes = []int{0, -1, -7, math.MinInt, api.MaxNode + 1, 2*api.MaxNode + 2, math.MaxInt}

// holds checks everything that a set tells of itself.
func holds(t *testing.T, name string, s nodeset.Set, full bool, want ...int) {
	t.Helper()
	if got := s.All(); !slices.Equal(got, want) {
		t.Errorf("%s: %v, want %v", name, got, want)
	}
	if s.Len() != len(want) || s.Full() != full {
		t.Errorf("%s: %d nodes, full %v", name, s.Len(), s.Full())
	}
	for _, n := range want {
		if !s.Has(n) {
			t.Errorf("%s: has no %d", name, n)
		}
	}
}

// of returns a set of this capacity that contains these nodes.
func of(t *testing.T, most int, nodes ...int) nodeset.Set {
	t.Helper()
	s := nodeset.New(most)
	for _, n := range nodes {
		var ok bool
		if s, ok = s.Add(n); !ok {
			t.Fatal("no room for", n)
		}
	}
	return s
}

func TestExample(t *testing.T) {
	holds(t, "example", of(t, 2, 7, 3), true, 3, 7)
}

func TestNew(t *testing.T) {
	tests := []struct{ most, want int }{
		{0, 0}, {1, 1}, {2, 2}, {63, 63}, {64, 64}, {65, 64}, {1000, 64}, {math.MaxInt, 64},
		{-1, 0}, {-64, 0}, {math.MinInt, 0},
	}
	for _, x := range tests {
		s := nodeset.New(x.most)
		holds(t, "new", s, x.want == 0)
		for n := 1; n <= 70; n++ {
			got, ok := s.Add(n)
			if ok != (n <= x.want) || got.Full() != (n >= x.want) {
				t.Errorf("capacity %d: %d: %v, full %v", x.most, n, ok, got.Full())
			}
			s = got
		}
		if s.Len() != x.want {
			t.Errorf("capacity %d: %d", x.most, s.Len())
		}
	}
}

func TestZeroSet(t *testing.T) {
	var s nodeset.Set
	holds(t, "zero", s, true)
	got, ok := s.Add(1)
	holds(t, "added to zero", got, true)
	if ok || s.Has(1) || s.Has(0) || len(s.But(1)) != 0 || len(s.But()) != 0 {
		t.Error(ok, s)
	}
	got, ok = s.Drop(1)
	holds(t, "dropped from zero", got, true)
	if ok {
		t.Error("dropped from nothing")
	}
}

func TestAdd(t *testing.T) {
	s := nodeset.New(3)
	steps := []struct {
		n    int
		ok   bool
		want []int
	}{
		{7, true, []int{7}},
		{api.MaxNode, true, []int{7, api.MaxNode}},
		{7, true, []int{7, api.MaxNode}},
		{0, false, []int{7, api.MaxNode}},
		{1, true, []int{1, 7, api.MaxNode}},
		{3, false, []int{1, 7, api.MaxNode}},
		{7, true, []int{1, 7, api.MaxNode}},
		{1, true, []int{1, 7, api.MaxNode}},
		{api.MaxNode, true, []int{1, 7, api.MaxNode}},
		{api.MaxNode + 1, false, []int{1, 7, api.MaxNode}},
	}
	for _, x := range steps {
		got, ok := s.Add(x.n)
		if ok != x.ok {
			t.Errorf("add %d: %v", x.n, ok)
		}
		holds(t, "add", got, len(x.want) == 3, x.want...)
		s = got
	}
}

func TestNotNodes(t *testing.T) {
	empty, some := nodeset.New(3), of(t, 3, 1, api.MaxNode)
	for _, n := range notNodes {
		got, ok := empty.Add(n)
		holds(t, "empty", got, false)
		if ok {
			t.Error("added", n)
		}
		got, ok = some.Add(n)
		holds(t, "some", got, false, 1, api.MaxNode)
		if ok || some.Has(n) {
			t.Error("added", n)
		}
		got, ok = some.Drop(n)
		holds(t, "drop", got, false, 1, api.MaxNode)
		if ok {
			t.Error("dropped", n)
		}
		if got := some.But(n); !slices.Equal(got, []int{1, api.MaxNode}) {
			t.Error(n, got)
		}
	}
}

func TestDrop(t *testing.T) {
	s := of(t, 3, 5, 9, 2)
	tests := []struct {
		n    int
		ok   bool
		want []int
	}{
		{2, true, []int{5, 9}}, {5, true, []int{2, 9}}, {9, true, []int{2, 5}},
		{1, false, []int{2, 5, 9}}, {3, false, []int{2, 5, 9}}, {10, false, []int{2, 5, 9}},
	}
	for _, x := range tests {
		got, ok := s.Drop(x.n)
		if ok != x.ok || got.Has(x.n) {
			t.Errorf("drop %d: %v", x.n, ok)
		}
		holds(t, "drop", got, !ok, x.want...)
	}
	s, _ = s.Drop(5)
	if _, again := s.Drop(5); again {
		t.Error("dropped twice")
	}
	s, ok := s.Add(8)
	holds(t, "room again", s, true, 2, 8, 9)
	for _, n := range []int{2, 8, 9} {
		s, ok = s.Drop(n)
		if !ok {
			t.Error("not dropped", n)
		}
	}
	holds(t, "empty again", s, false)
}

func TestHas(t *testing.T) {
	s := of(t, 64, 2, 3, 40, api.MaxNode)
	for n := -5; n <= api.MaxNode+5; n++ {
		if want := n == 2 || n == 3 || n == 40 || n == api.MaxNode; s.Has(n) != want {
			t.Errorf("has %d: %v", n, !want)
		}
	}
}

func TestBut(t *testing.T) {
	s := of(t, 5, 9, 4, 6, 2)
	tests := []struct{ l, want []int }{
		{nil, []int{2, 4, 6, 9}},
		{[]int{}, []int{2, 4, 6, 9}},
		{[]int{4}, []int{2, 6, 9}},
		{[]int{9, 2}, []int{4, 6}},
		{[]int{6, 6, 4, 6}, []int{2, 9}},
		{[]int{9, 6, 4, 2}, nil},
		{[]int{1, 3, 5, 10}, []int{2, 4, 6, 9}},
		{[]int{0, -1, math.MaxInt, 2}, []int{4, 6, 9}},
	}
	for _, x := range tests {
		l := slices.Clone(x.l)
		if got := s.But(x.l...); !slices.Equal(got, x.want) {
			t.Errorf("but %v: %v", x.l, got)
		}
		if !slices.Equal(l, x.l) {
			t.Error("modified", l, x.l)
		}
		holds(t, "but", s, false, 2, 4, 6, 9)
	}
}

func TestSetsAreNotModified(t *testing.T) {
	s := of(t, 5, 2, 4, 6)
	var all []nodeset.Set
	for n := 1; n <= 7; n++ {
		a, _ := s.Add(n)
		b, _ := s.Drop(n)
		c, _ := b.Add(7)
		all = append(all, a, b, c)
	}
	holds(t, "first", s, false, 2, 4, 6)
	for i, x := range all {
		n := i/3 + 1
		want := []int{2, 4, 6}
		if at, found := slices.BinarySearch(want, n); i%3 == 0 && !found {
			want = slices.Insert(want, at, n)
		} else if i%3 != 0 && found {
			want = slices.Delete(want, at, at+1)
		}
		if i%3 == 2 {
			want = append(want, 7)
		}
		holds(t, "later", x, false, want...)
	}
}

func TestResultsAreNew(t *testing.T) {
	s := of(t, 5, 2, 4, 6)
	for _, l := range [][]int{s.All(), s.But(), s.But(4), s.But(6), s.But(1)} {
		for i := range l {
			l[i] = 99
		}
		_ = append(l, 99, 99)
		holds(t, "overwritten", s, false, 2, 4, 6)
	}
	s, _ = s.Add(3)
	holds(t, "then added", s, false, 2, 3, 4, 6)
}

// TestManySteps holds sets against a plain map, along with all the sets before.
func TestManySteps(t *testing.T) {
	for _, most := range []int{1, 3, 10, 64} {
		s, model := nodeset.New(most), map[int]bool{}
		x := uint32(most)
		for range 3000 {
			x = x*1664525 + 1013904223
			n, before := int(x>>16)%(most+most/2+2), s.All()
			old, ok, want := s, false, model[n]
			if x>>8&1 == 0 {
				want = n > 0 && (model[n] || len(model) < most)
				s, ok = s.Add(n)
				if want {
					model[n] = true
				}
			} else {
				s, ok = s.Drop(n)
				delete(model, n)
			}
			if ok != want || s.Len() != len(model) || !slices.Equal(old.All(), before) {
				t.Fatal(most, n, ok, want, s, old, before)
			}
			all := []int{}
			for n := range model {
				all = append(all, n)
			}
			slices.Sort(all)
			holds(t, "steps", s, len(model) == most, all...)
		}
	}
}
