package pipe_test

import (
	"math"
	"slices"
	"strconv"
	"strings"
	"testing"

	"bellhop/api"
	"bellhop/pipe"
)

// broken is a break as it comes out of a pipe.
var broken = pipe.Item{Broken: true}

// sent is an item of bytes as it comes out of a pipe.
func sent(s string) pipe.Item {
	return pipe.Item{Text: s}
}

// send bytes for which there must be room.
func send(t *testing.T, p *pipe.Pipe, l ...string) {
	t.Helper()
	for _, s := range l {
		if !p.Send(s) {
			t.Fatalf("no room for %q after %d items", s, p.Len())
		}
	}
}

// fill sends the numbers from a first one on until so many items are in the pipe.
func fill(t *testing.T, p *pipe.Pipe, first, most int) []pipe.Item {
	t.Helper()
	var l []pipe.Item
	for n := first; p.Len() < most; n++ {
		send(t, p, strconv.Itoa(n))
		l = append(l, sent(strconv.Itoa(n)))
	}
	return l
}

// takes checks that just these items come out of a pipe.
func takes(t *testing.T, name string, p *pipe.Pipe, want ...pipe.Item) {
	t.Helper()
	for i, w := range want {
		if p.Len() != len(want)-i {
			t.Errorf("%s: %d items, want %d", name, p.Len(), len(want)-i)
		}
		if x, ok := p.Take(); x != w || !ok {
			t.Errorf("%s: item %d: %+v %v, want %+v", name, i, x, ok, w)
		}
	}
	if x, ok := p.Take(); x != (pipe.Item{}) || ok || p.Len() != 0 {
		t.Errorf("%s: after the last item: %+v %v, %d items", name, x, ok, p.Len())
	}
}

func TestExample(t *testing.T) {
	p := pipe.New()
	send(t, p, "a")
	p.Break()
	send(t, p, "b")
	takes(t, "example", p, broken, sent("b"))
}

func TestNew(t *testing.T) {
	takes(t, "new", pipe.New())
	a, b := pipe.New(), pipe.New()
	send(t, a, "a")
	takes(t, "another pipe", b)
	takes(t, "the pipe", a, sent("a"))
}

func TestSendKeepsBytesAndOrder(t *testing.T) {
	l := []string{"b", "a", "", "a", "\x00\xff\n", strings.Repeat("long", 5000), ""}
	p := pipe.New()
	send(t, p, l...)
	var want []pipe.Item
	for _, s := range l {
		want = append(want, sent(s))
	}
	takes(t, "bytes", p, want...)
	takes(t, "again", p)
}

func TestSendWithoutRoom(t *testing.T) {
	p := pipe.New()
	for i := range 64 {
		if !p.Send(strconv.Itoa(i)) || p.Len() != i+1 {
			t.Fatal(i, p.Len())
		}
	}
	if p.Send("no room") || p.Send("") || p.Len() != api.MaxQueue {
		t.Error("more items than there is room for", p.Len())
	}
	if x, ok := p.Take(); x != sent("0") || !ok {
		t.Error(x, ok)
	}
	send(t, p, "last")
	if p.Send("no room") {
		t.Error("room for two after one was taken")
	}
	var want []pipe.Item
	for i := range 63 {
		want = append(want, sent(strconv.Itoa(i+1)))
	}
	takes(t, "full", p, append(want, sent("last"))...)
	takes(t, "full again", p, fill(t, p, 100, 64)...)
}

func TestBreak(t *testing.T) {
	for _, n := range []int{0, 1, 2, 63, 64} {
		name := strconv.Itoa(n) + " items"
		p := pipe.New()
		fill(t, p, 0, n)
		p.Break()
		takes(t, name, p, broken)
		fill(t, p, 0, n)
		p.Break()
		p.Break()
		takes(t, name+", twice", p, broken)
		fill(t, p, 0, n)
		p.Break()
		rest := fill(t, p, 200, 64)
		if len(rest) != 63 || p.Send("no room") {
			t.Errorf("%s: room for %d after a break", name, len(rest))
		}
		takes(t, name+", filled", p, append([]pipe.Item{broken}, rest...)...)
	}
}

func TestBreakAfterTaking(t *testing.T) {
	p := pipe.New()
	send(t, p, "a", "b", "c")
	p.Take()
	p.Break()
	send(t, p, "d")
	p.Break()
	send(t, p, "e", "f")
	takes(t, "break", p, broken, sent("e"), sent("f"))
}

func TestClear(t *testing.T) {
	for _, n := range []int{0, 1, 2, 63, 64} {
		p := pipe.New()
		fill(t, p, 0, n)
		p.Clear()
		takes(t, "clear", p)
		takes(t, "filled", p, fill(t, p, 300, 64)...)
	}
	p := pipe.New()
	p.Break()
	send(t, p, "a")
	p.Clear()
	takes(t, "cleared break", p)
}

func TestNilPipe(t *testing.T) {
	var p *pipe.Pipe
	p.Break()
	p.Clear()
	if p.Send("a") || p.Send("") {
		t.Error("a nil pipe takes bytes")
	}
	takes(t, "nil", p)
}

// pipes returns pipes of which just those at these indices are not empty.
func pipes(t *testing.T, n int, full ...int) []*pipe.Pipe {
	t.Helper()
	l := make([]*pipe.Pipe, n)
	for i := range l {
		l[i] = pipe.New()
		if slices.Contains(full, i) {
			send(t, l[i], "x")
		}
	}
	return l
}

// first checks what First returns.
func first(t *testing.T, from int, l []*pipe.Pipe, want int, found bool) {
	t.Helper()
	if i, ok := pipe.First(from, l...); i != want || ok != found {
		t.Errorf("from %d of %d: %d %v, want %d %v", from, len(l), i, ok, want, found)
	}
}

func TestFirst(t *testing.T) {
	l := pipes(t, 5, 1, 3)
	for from, want := range []int{1, 1, 3, 3, 1, 1, 1, 3, 3, 1, 1} {
		first(t, from, l, want, true)
		first(t, from+5000, l, want, true)
	}
	for from := range 12 {
		first(t, from, pipes(t, 4, 0), 0, true)
		first(t, from, pipes(t, 4, 2), 2, true)
		first(t, from, pipes(t, 4, 3), 3, true)
		first(t, from, pipes(t, 4, 0, 1, 2, 3), from%4, true)
		first(t, from, pipes(t, 1, 0), 0, true)
	}
}

func TestFirstOfNone(t *testing.T) {
	for _, from := range []int{0, 1, 3, 4, -1, math.MaxInt, math.MinInt} {
		first(t, from, nil, 0, false)
		first(t, from, pipes(t, 1), 0, false)
		first(t, from, pipes(t, 4), 0, false)
		first(t, from, make([]*pipe.Pipe, 3), 0, false)
	}
}

func TestFirstOfNilPipes(t *testing.T) {
	l := pipes(t, 4, 0, 2)
	l[0], l[3] = nil, nil
	for from := range 8 {
		first(t, from, l, 2, true)
	}
}

func TestFirstFromAnyNumber(t *testing.T) {
	three := pipes(t, 3, 0, 1, 2)
	for from, want := range map[int]int{-1: 2, -2: 1, -3: 0, -4: 2, -300: 0, math.MaxInt: math.MaxInt % 3} {
		first(t, from, three, want, true)
	}
	first(t, -1, pipes(t, 5, 1, 3), 1, true)
	first(t, -2, pipes(t, 5, 1, 3), 3, true)
	first(t, math.MinInt, pipes(t, 4, 0, 1, 2, 3), 0, true)
	for _, from := range []int{math.MinInt, math.MinInt + 1, math.MaxInt - 1, math.MaxInt} {
		for i := range 7 {
			first(t, from, pipes(t, 7, i), i, true)
		}
	}
}

func TestFirstTakesNothing(t *testing.T) {
	a, b := pipe.New(), pipe.New()
	b.Break()
	send(t, b, "x")
	l := []*pipe.Pipe{nil, a, b, a}[:3]
	first(t, 0, l, 2, true)
	if l = l[:4]; l[0] != nil || l[1] != a || l[2] != b || l[3] != a {
		t.Error("the list is modified")
	}
	takes(t, "empty", a)
	takes(t, "not empty", b, broken, sent("x"))
	first(t, 0, l, 0, false)
}

// TestManySteps holds pipes against lists.
func TestManySteps(t *testing.T) {
	p, x := pipe.New(), uint32(1)
	var l []pipe.Item
	for i := range 20000 {
		x = x*1664525 + 1013904223
		switch n := x >> 16 % 300; {
		case n == 0:
			p.Break()
			l = []pipe.Item{broken}
		case n == 1:
			p.Clear()
			l = nil
		case n < 180:
			room := len(l) < 64
			if p.Send(strconv.Itoa(i)) != room {
				t.Fatal(i, "room", room)
			}
			if room {
				l = append(l, sent(strconv.Itoa(i)))
			}
		default:
			want := pipe.Item{}
			some := len(l) > 0
			if some {
				want, l = l[0], l[1:]
			}
			if got, ok := p.Take(); got != want || ok != some {
				t.Fatal(i, got, ok, want)
			}
		}
		if p.Len() != len(l) {
			t.Fatal(i, p.Len(), len(l))
		}
	}
	takes(t, "rest", p, l...)
}
