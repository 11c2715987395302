package draw_test

import (
	"math"
	"slices"
	"testing"

	"bellhop/draw"
)

func TestBelow(t *testing.T) {
	d := draw.New(5, 1)
	for i, want := range []int{2, 1, 0, 0} {
		if got := d.Below(3); got != want {
			t.Errorf("%d: %d, want %d", i, got, want)
		}
	}
	tests := []struct {
		x    uint32
		n    int
		want int
	}{
		{0, 2, 0}, {1, 2, 1}, {2, 2, 0}, {7, 3, 1}, {12, 13, 12}, {13, 13, 0},
		{math.MaxUint32, 2, 1}, {math.MaxUint32, 10, 5}, {math.MaxUint32, 65536, 65535},
		{math.MaxInt32 - 1, math.MaxInt32, math.MaxInt32 - 1},
		{math.MaxInt32, math.MaxInt32, 0},
		{math.MaxUint32, math.MaxInt32, 1},
		{math.MaxUint32, math.MaxInt32 - 1, 3},
	}
	for _, x := range tests {
		d := draw.New(x.x)
		if got := d.Below(x.n); got != x.want || d.Left() != 0 {
			t.Errorf("%d below %d: %d, left %d", x.x, x.n, got, d.Left())
		}
	}
}

func TestBelowConsumesNothing(t *testing.T) {
	d := draw.New(7, 8)
	for _, n := range []int{1, 0, -1, -2, -7, math.MinInt, math.MinInt32, math.MaxInt32 + 1, math.MaxUint32, math.MaxInt} {
		if got := d.Below(n); got != 0 || d.Left() != 2 {
			t.Errorf("below %d: %d, left %d", n, got, d.Left())
		}
	}
	if a, b := d.Below(10), d.Below(10); a != 7 || b != 8 {
		t.Error(a, b)
	}
}

func TestLeft(t *testing.T) {
	if n := draw.New().Left(); n != 0 {
		t.Error(n)
	}
	d := draw.New(1, 2, 3)
	for i, want := range []int{3, 2, 1, 0, 0} {
		if got := d.Left(); got != want {
			t.Errorf("%d: %d, want %d", i, got, want)
		}
		d.Below(2)
	}
}

func TestNilDraw(t *testing.T) {
	var d *draw.Draw
	for _, n := range []int{math.MinInt, -1, 0, 1, 2, math.MaxInt32, math.MaxInt} {
		if got := d.Below(n); got != 0 {
			t.Error(n, got)
		}
	}
	if d.Left() != 0 {
		t.Error(d.Left())
	}
	if x, ok := draw.One(d, []int{4, 5}); x != 4 || !ok {
		t.Error(x, ok)
	}
	if x := draw.Some(d, []int{4, 5, 6}, 2); !slices.Equal(x, []int{4, 5}) {
		t.Error(x)
	}
}

func TestNewKeepsNoList(t *testing.T) {
	l := []uint32{1, 2, 3, 4}
	d := draw.New(l[:2]...)
	l[0], l[1] = 8, 9
	if a, b := d.Below(10), d.Below(10); a != 1 || b != 2 {
		t.Error(a, b)
	}
	if d.Left() != 0 || !slices.Equal(l, []uint32{8, 9, 3, 4}) {
		t.Error(d.Left(), l)
	}
	a, b := draw.New(l...), draw.New(l...)
	a.Below(10)
	if a.Left() != 3 || b.Left() != 4 {
		t.Error("two draws share numbers")
	}
}

func TestOne(t *testing.T) {
	l := []string{"a", "b", "c"}
	d := draw.New(2, 4, 3)
	for i, want := range []string{"c", "b", "a", "a"} {
		if x, ok := draw.One(d, l); x != want || !ok {
			t.Errorf("%d: %q %v", i, x, ok)
		}
	}
	if !slices.Equal(l, []string{"a", "b", "c"}) {
		t.Error(l)
	}
}

func TestOneWithoutChoice(t *testing.T) {
	type pair struct{ a, b int }
	d := draw.New(7)
	if x, ok := draw.One(d, []pair{}); ok || x != (pair{}) || d.Left() != 1 {
		t.Error(x, ok, d.Left())
	}
	if x, ok := draw.One[*pair](d, nil); ok || x != nil || d.Left() != 1 {
		t.Error(x, ok, d.Left())
	}
	if x, ok := draw.One(d, []pair{{1, 2}}); !ok || x != (pair{1, 2}) || d.Left() != 1 {
		t.Error(x, ok, d.Left())
	}
	if x, ok := draw.One(nil, []int{}); ok || x != 0 {
		t.Error(x, ok)
	}
}

func TestSome(t *testing.T) {
	l := []int{10, 11, 12, 13, 14}
	tests := []struct {
		numbers []uint32
		n       int
		want    []int
		left    int
	}{
		{[]uint32{1, 1}, 2, []int{11, 12}, 0},
		{[]uint32{4, 3, 2}, 3, []int{14, 13, 12}, 0},
		{[]uint32{3, 0, 2}, 3, []int{13, 10, 14}, 0},
		{[]uint32{2, 2, 2, 2, 2}, 4, []int{12, 13, 14, 10}, 1},
		{[]uint32{3}, 5, []int{13, 10, 11, 12, 14}, 0},
		{[]uint32{9, 9, 9, 9, 9}, 5, []int{14, 11, 10, 13, 12}, 1},
		{[]uint32{9, 9, 9, 9, 9}, 6, []int{14, 11, 10, 13, 12}, 1},
		{nil, 3, []int{10, 11, 12}, 0},
		{nil, math.MaxInt, l, 0},
		{[]uint32{1}, 1, []int{11}, 0},
		{[]uint32{1}, 0, nil, 1},
		{[]uint32{1}, -1, nil, 1},
		{[]uint32{1}, math.MinInt, nil, 1},
	}
	for _, x := range tests {
		d := draw.New(x.numbers...)
		if got := draw.Some(d, l, x.n); !slices.Equal(got, x.want) || d.Left() != x.left {
			t.Errorf("%v, %d: %v, left %d", x.numbers, x.n, got, d.Left())
		}
		if !slices.Equal(l, []int{10, 11, 12, 13, 14}) {
			t.Fatal("list modified", l)
		}
	}
}

func TestSomeOfFew(t *testing.T) {
	d := draw.New(1, 2)
	if x := draw.Some(d, []int{}, 3); len(x) != 0 || d.Left() != 2 {
		t.Error(x, d.Left())
	}
	if x := draw.Some[string](d, nil, 3); len(x) != 0 || d.Left() != 2 {
		t.Error(x, d.Left())
	}
	if x := draw.Some(d, []int{6}, 3); !slices.Equal(x, []int{6}) || d.Left() != 2 {
		t.Error(x, d.Left())
	}
	if x := draw.Some(d, []string{"a", "a", "b"}, 3); !slices.Equal(x, []string{"a", "a", "b"}) || d.Left() != 0 {
		t.Error(x, d.Left())
	}
}

// TestSomeIsOneRepeated holds Some against its definition.
func TestSomeIsOneRepeated(t *testing.T) {
	for size := range 8 {
		for seed := range uint32(200) {
			numbers := []uint32{seed, seed * 7, seed / 3, seed * seed}
			var rest, want []int
			for i := range size {
				rest = append(rest, i)
			}
			got := draw.Some(draw.New(numbers...), rest, size-1)
			d := draw.New(numbers...)
			for range size - 1 {
				x, _ := draw.One(d, rest)
				want = append(want, x)
				rest = slices.Delete(rest, slices.Index(rest, x), slices.Index(rest, x)+1)
			}
			if !slices.Equal(got, want) {
				t.Fatalf("%d of %v: %v, want %v", size, numbers, got, want)
			}
		}
	}
}

func TestSomeSharesNothing(t *testing.T) {
	all := []int{1, 2, 3, 4, 5}
	l := all[:3]
	for _, d := range []*draw.Draw{nil, draw.New(2, 1)} {
		x := draw.Some(d, l, 3)
		for i := range x {
			x[i] = 9
		}
		_ = append(x, 9, 9)
		if !slices.Equal(all, []int{1, 2, 3, 4, 5}) {
			t.Fatal(all)
		}
	}
}
