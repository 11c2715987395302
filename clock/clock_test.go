package clock_test

import (
	"math"
	"slices"
	"strconv"
	"testing"

	"bellhop/api"
	"bellhop/clock"
)

// set a timer for which there must be room.
func set[K comparable](t *testing.T, c *clock.Clock[K], k K, at int64) {
	t.Helper()
	if !c.Set(k, at) {
		t.Fatal("no room for", k)
	}
}

// due checks what Due returns, and that it removes just that.
func due[K comparable](t *testing.T, c *clock.Clock[K], now int64, want ...K) {
	t.Helper()
	before := c.Len()
	if got := c.Due(now); !slices.Equal(got, want) {
		t.Errorf("due at %d: %v, want %v", now, got, want)
	}
	if got := c.Len(); got != before-len(want) {
		t.Errorf("due at %d: %d of %d are left", now, got, before)
	}
	for _, k := range want {
		if at, ok := c.When(k); ok || at != 0 {
			t.Errorf("due at %d: %v is still set at %d", now, k, at)
		}
	}
	if again := c.Due(now); len(again) != 0 {
		t.Errorf("due at %d again: %v", now, again)
	}
}

func TestExample(t *testing.T) {
	c := clock.New[string](8)
	set(t, c, "a", 5)
	set(t, c, "b", 3)
	due(t, c, 5, "b", "a")
}

func TestNew(t *testing.T) {
	tests := []struct{ most, want int }{
		{0, 0}, {1, 1}, {2, 2}, {63, 63}, {64, 64}, {65, 64}, {1000, 64}, {math.MaxInt, 64},
		{-1, 0}, {-64, 0}, {math.MinInt, 0},
	}
	for _, x := range tests {
		c := clock.New[int](x.most)
		if c.Len() != 0 || len(c.Due(math.MaxInt64)) != 0 {
			t.Errorf("capacity %d: not empty", x.most)
		}
		for k := range 70 {
			if ok := c.Set(k, 1); ok != (k < x.want) || c.Len() != min(k+1, x.want) {
				t.Errorf("capacity %d: %d: %v, %d", x.most, k, ok, c.Len())
			}
			if at, ok := c.When(k); ok != (k < x.want) || ok && at != 1 || !ok && at != 0 {
				t.Errorf("capacity %d: %d is due at %d, %v", x.most, k, at, ok)
			}
		}
	}
}

func TestSetWhenFull(t *testing.T) {
	c := clock.New[string](2)
	set(t, c, "a", 5)
	set(t, c, "b", 5)
	if c.Set("c", 1) || c.Len() != 2 {
		t.Error("a third key of two")
	}
	if at, ok := c.When("c"); ok || at != 0 {
		t.Error("c", at, ok)
	}
	set(t, c, "a", 7)
	if at, ok := c.When("a"); at != 7 || !ok {
		t.Error("a", at, ok)
	}
	if at, ok := c.When("b"); at != 5 || !ok {
		t.Error("b", at, ok)
	}
	due(t, c, 5, "b")
	set(t, c, "c", 6)
	due(t, c, 7, "c", "a")
}

func TestUnset(t *testing.T) {
	c := clock.New[string](2)
	set(t, c, "a", 5)
	set(t, c, "b", 3)
	if !c.Unset("a") || c.Len() != 1 {
		t.Error("not removed", c.Len())
	}
	if c.Unset("a") || c.Unset("c") || c.Len() != 1 {
		t.Error("removed what is not present", c.Len())
	}
	if at, ok := c.When("a"); ok || at != 0 {
		t.Error("a", at, ok)
	}
	if at, ok := c.When("b"); at != 3 || !ok {
		t.Error("b", at, ok)
	}
	set(t, c, "c", 1)
	due(t, c, 9, "c", "b")
}

func TestWhen(t *testing.T) {
	c := clock.New[int](9)
	for k, at := range []int64{0, 1, -1, math.MinInt64, math.MaxInt64} {
		set(t, c, k, at)
		if got, ok := c.When(k); got != at || !ok {
			t.Error(k, got, ok)
		}
	}
	if at, ok := c.When(5); at != 0 || ok {
		t.Error(at, ok)
	}
	if c.Len() != 5 {
		t.Error(c.Len())
	}
}

func TestDueBounds(t *testing.T) {
	c := clock.New[string](9)
	set(t, c, "least", math.MinInt64)
	set(t, c, "greatest", math.MaxInt64)
	set(t, c, "before", -1)
	set(t, c, "zero", 0)
	set(t, c, "after", 1)
	due(t, c, math.MinInt64, "least")
	due[string](t, c, -2)
	due(t, c, 0, "before", "zero")
	due(t, c, math.MaxInt64-1, "after")
	due(t, c, math.MaxInt64, "greatest")
	due[string](t, c, math.MaxInt64)
	set(t, c, "greatest", math.MaxInt64)
	set(t, c, "least", math.MinInt64)
	due(t, c, math.MaxInt64, "least", "greatest")
}

func TestDueInTheOrderOfSetting(t *testing.T) {
	c := clock.New[int](64)
	var want []int
	for i := range 64 {
		k := i * 37 % 64
		set(t, c, k, 9)
		want = append(want, k)
	}
	due(t, c, 9, want...)
	set(t, c, 1, 4)
	set(t, c, 2, 5)
	set(t, c, 3, 4)
	set(t, c, 4, 5)
	due(t, c, 6, 1, 3, 2, 4)
}

func TestSetAgainCountsAsLast(t *testing.T) {
	c := clock.New[string](3)
	set(t, c, "a", 5)
	set(t, c, "b", 5)
	set(t, c, "c", 5)
	set(t, c, "a", 5)
	due(t, c, 5, "b", "c", "a")
	set(t, c, "a", 5)
	set(t, c, "b", 5)
	set(t, c, "c", 4)
	set(t, c, "a", 6)
	set(t, c, "a", 5)
	if c.Set("d", 1) {
		t.Error("a fourth key of three")
	}
	due(t, c, 9, "c", "b", "a")
	set(t, c, "a", 5)
	set(t, c, "b", 5)
	c.Unset("a")
	set(t, c, "a", 5)
	due(t, c, 9, "b", "a")
}

func TestSetAgainMovesTheTick(t *testing.T) {
	c := clock.New[string](3)
	set(t, c, "later", 1)
	set(t, c, "sooner", 9)
	set(t, c, "later", 9)
	set(t, c, "sooner", 1)
	due(t, c, 1, "sooner")
	due(t, c, 9, "later")
}

func TestNilClock(t *testing.T) {
	var c *clock.Clock[string]
	if c.Set("a", 1) || c.Unset("a") || c.Len() != 0 || len(c.Due(math.MaxInt64)) != 0 {
		t.Error("a nil clock does something")
	}
	if at, ok := c.When("a"); at != 0 || ok {
		t.Error(at, ok)
	}
}

func TestKeysAreStructs(t *testing.T) {
	type key struct {
		node int
		name string
	}
	c := clock.New[key](3)
	set(t, c, key{1, "a"}, 2)
	set(t, c, key{1, "b"}, 1)
	set(t, c, key{1, "a"}, 3)
	if c.Len() != 2 || c.Unset(key{2, "a"}) {
		t.Error(c.Len())
	}
	due(t, c, 3, key{1, "b"}, key{1, "a"})
}

func TestKeyThatEqualsNone(t *testing.T) {
	c := clock.New[float64](3)
	set(t, c, math.NaN(), 1)
	set(t, c, 7, 2)
	set(t, c, math.NaN(), 3)
	if c.Set(math.NaN(), 1) || c.Len() != 3 {
		t.Error("a fourth key of three")
	}
	if at, ok := c.When(math.NaN()); ok || at != 0 || c.Unset(math.NaN()) {
		t.Error(at, ok)
	}
	for _, x := range []struct {
		now       int64
		due, left int
	}{{1, 1, 2}, {2, 1, 1}, {2, 0, 1}, {9, 1, 0}, {9, 0, 0}} {
		if n := len(c.Due(x.now)); n != x.due || c.Len() != x.left {
			t.Errorf("%+v: %d due, %d left", x, n, c.Len())
		}
	}
}

func TestKeyThatCannotBeCompared(t *testing.T) {
	c := clock.New[any](3)
	set[any](t, c, "a", 1)
	for _, k := range []any{[]int{1}, map[int]int{}, func() {}, [1]any{[]int{}}} {
		if at, ok := c.When(k); c.Set(k, 1) || c.Unset(k) || ok || at != 0 {
			t.Errorf("%T", k)
		}
	}
	set[any](t, c, nil, 1)
	set[any](t, c, 1, 1)
	due[any](t, c, 1, "a", nil, 1)
}

func TestClocksAreApart(t *testing.T) {
	a, b := clock.New[int](3), clock.New[int](3)
	set(t, a, 1, 1)
	set(t, a, 2, 2)
	if b.Len() != 0 || b.Unset(1) {
		t.Error("two clocks share keys")
	}
	l := a.Due(1)
	l[0] = 9
	_ = append(l, 9, 9)
	due(t, a, 2, 2)
}

// plain is a clock without a map: its timers are in the order in which they were set.
type plain struct {
	keys []string
	at   []int64
}

func (p *plain) unset(k string) bool {
	i := slices.Index(p.keys, k)
	if i < 0 {
		return false
	}
	p.keys, p.at = slices.Delete(p.keys, i, i+1), slices.Delete(p.at, i, i+1)
	return true
}

func (p *plain) set(k string, at int64, most int) bool {
	if !p.unset(k) && len(p.keys) >= most {
		return false
	}
	p.keys, p.at = append(p.keys, k), append(p.at, at)
	return true
}

func (p *plain) due(now int64) []string {
	var out []string
	for len(p.at) > 0 && slices.Min(p.at) <= now {
		k := p.keys[slices.Index(p.at, slices.Min(p.at))]
		out = append(out, k)
		p.unset(k)
	}
	return out
}

// TestManySteps holds clocks against plain ones.
func TestManySteps(t *testing.T) {
	for _, most := range []int{1, 3, 10, api.MaxNodes} {
		c, p := clock.New[string](most), &plain{}
		x, now := uint32(most), int64(0)
		next := func(n int) int {
			x = x*1664525 + 1013904223
			return int(x>>16) % n
		}
		for range 5000 {
			k, at := strconv.Itoa(next(most+most/2+1)), now+int64(next(8))
			same := true
			switch next(4) {
			case 0, 1:
				same = c.Set(k, at) == p.set(k, at, most)
			case 2:
				same = c.Unset(k) == p.unset(k)
			default:
				now += int64(next(3))
				same = slices.Equal(c.Due(now), p.due(now))
			}
			got, ok := c.When(k)
			if i := slices.Index(p.keys, k); ok != (i >= 0) || ok && got != p.at[i] || !ok && got != 0 {
				same = false
			}
			if !same || c.Len() != len(p.keys) {
				t.Fatal(most, k, at, now, c.Len(), p.keys)
			}
		}
	}
}
