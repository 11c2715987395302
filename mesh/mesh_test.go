package mesh_test

import (
	"math"
	"slices"
	"strconv"
	"testing"

	"bellhop/api"
	"bellhop/mesh"
	"bellhop/pipe"
)

// notNodes are numbers that are no nodes.
var notNodes = []int{0, -1, -7, math.MinInt, api.MaxNode + 1, 2*api.MaxNode + 2, math.MaxInt}

// broken is a break as it is taken.
var broken = pipe.Item{Broken: true}

// sent returns items of bytes as they are taken.
func sent(l ...string) []pipe.Item {
	var items []pipe.Item
	for _, s := range l {
		items = append(items, pipe.Item{Text: s})
	}
	return items
}

// afterBreak returns a break and items of bytes after it.
func afterBreak(l ...string) []pipe.Item {
	return append([]pipe.Item{broken}, sent(l...)...)
}

// up returns a mesh in which these nodes are live.
func up(nodes ...int) *mesh.Mesh {
	m := mesh.New()
	for _, n := range nodes {
		m.Up(n)
	}
	return m
}

// send all these, one after another.
func send(m *mesh.Mesh, from, to int, l ...string) {
	for _, s := range l {
		m.Send(from, to, s)
	}
}

// numbers returns so many different texts.
func numbers(n int) []string {
	var l []string
	for i := range n {
		l = append(l, strconv.Itoa(i))
	}
	return l
}

// live checks which nodes are live.
func live(t *testing.T, name string, m *mesh.Mesh, want ...int) {
	t.Helper()
	if got := m.Nodes(); !slices.Equal(got, want) {
		t.Errorf("%s: nodes %v, want %v", name, got, want)
	}
	for _, n := range append([]int{1, 2, 3, 4, 5, api.MaxNode}, notNodes...) {
		if m.Live(n) != slices.Contains(want, n) {
			t.Errorf("%s: %d is live: %v", name, n, m.Live(n))
		}
	}
}

// ways checks on which ways items are in transit.
func ways(t *testing.T, name string, m *mesh.Mesh, want ...[2]int) {
	t.Helper()
	if got := m.Ways(); !slices.Equal(got, want) {
		t.Errorf("%s: ways %v, want %v", name, got, want)
	}
}

// takes checks that just these items are in transit from one node to another one, and takes them.
func takes(t *testing.T, name string, m *mesh.Mesh, from, to int, want ...pipe.Item) {
	t.Helper()
	for i, w := range want {
		if n := m.Len(from, to); n != len(want)-i {
			t.Errorf("%s: %d items from %d to %d, want %d", name, n, from, to, len(want)-i)
		}
		if x, ok := m.Take(from, to); x != w || !ok {
			t.Errorf("%s: item %d from %d to %d: %+v %v, want %+v", name, i, from, to, x, ok, w)
		}
	}
	if x, ok := m.Take(from, to); x != (pipe.Item{}) || ok || m.Len(from, to) != 0 {
		t.Errorf("%s: after the last item from %d to %d: %+v %v", name, from, to, x, ok)
	}
}

func TestExample(t *testing.T) {
	m := up(1)
	m.Send(1, 2, "s")
	takes(t, "example", m, 1, 2)
	takes(t, "example", m, 2, 1, broken)
	ways(t, "example", m)
}

func TestNew(t *testing.T) {
	m := mesh.New()
	live(t, "new", m)
	ways(t, "new", m)
	takes(t, "new", m, 1, 2)
	other := up(1, 2)
	other.Send(1, 2, "a")
	live(t, "another mesh", m)
	ways(t, "another mesh", m)
}

func TestUp(t *testing.T) {
	m := up(3, 1, api.MaxNode, 2)
	live(t, "up", m, 1, 2, 3, api.MaxNode)
	send(m, 1, 2, "a")
	m.Up(1)
	m.Up(2)
	live(t, "up again", m, 1, 2, 3, api.MaxNode)
	ways(t, "up again", m, [2]int{1, 2})
	takes(t, "up again", m, 1, 2, sent("a")...)
}

func TestUpOfNoNode(t *testing.T) {
	m := mesh.New()
	for _, n := range notNodes {
		m.Up(n)
		m.Down(n)
	}
	live(t, "no nodes", m)
	ways(t, "no nodes", m)
	m.Up(4)
	for _, n := range notNodes {
		m.Up(n)
		m.Send(n, 4, "a")
		m.Break(n, 4)
		m.Break(4, n)
	}
	live(t, "a node", m, 4)
	ways(t, "a node", m)
}

func TestUpSendsNothing(t *testing.T) {
	m := up(1, 2, 3)
	ways(t, "up", m)
	m.Down(2)
	takes(t, "down", m, 2, 1, broken)
	takes(t, "down", m, 2, 3, broken)
	m.Up(2)
	live(t, "up", m, 1, 2, 3)
	ways(t, "up again", m)
}

func TestDown(t *testing.T) {
	m := up(1, 2, 3)
	send(m, 1, 2, "lost", "lost too")
	send(m, 3, 2, "lost")
	send(m, 2, 1, "replaced", "replaced too")
	send(m, 1, 3, "kept", "kept too")
	send(m, 3, 1, "kept")
	m.Down(2)
	live(t, "down", m, 1, 3)
	ways(t, "down", m, [2]int{1, 3}, [2]int{2, 1}, [2]int{2, 3}, [2]int{3, 1})
	takes(t, "to it", m, 1, 2)
	takes(t, "to it", m, 3, 2)
	takes(t, "from it", m, 2, 1, broken)
	takes(t, "from it, nothing before", m, 2, 3, broken)
	takes(t, "between others", m, 1, 3, sent("kept", "kept too")...)
	takes(t, "between others", m, 3, 1, sent("kept")...)
	ways(t, "taken", m)
}

func TestDownOfTheLastNode(t *testing.T) {
	m := up(5)
	m.Down(5)
	live(t, "down", m)
	ways(t, "down", m)
}

func TestDownLosesBreaks(t *testing.T) {
	m := up(1, 2, 3)
	m.Down(1)
	m.Down(2)
	live(t, "two down", m, 3)
	ways(t, "two down", m, [2]int{1, 3}, [2]int{2, 3})
	m.Down(3)
	live(t, "all down", m)
	ways(t, "all down", m)
	for _, n := range []int{1, 2, 3} {
		m.Up(n)
	}
	live(t, "all up", m, 1, 2, 3)
	ways(t, "all up", m)
}

func TestUpAfterDown(t *testing.T) {
	m := up(1, 2)
	send(m, 1, 2, "lost")
	send(m, 2, 1, "replaced")
	m.Down(2)
	m.Up(2)
	live(t, "up", m, 1, 2)
	ways(t, "up", m, [2]int{2, 1})
	send(m, 2, 1, "a", "b")
	send(m, 1, 2, "c")
	takes(t, "to it", m, 1, 2, sent("c")...)
	takes(t, "from it", m, 2, 1, afterBreak("a", "b")...)
}

func TestSend(t *testing.T) {
	m := up(1, 2, 3)
	send(m, 1, 2, "b", "", "a", "a", "\x00\xff")
	send(m, 2, 1, "back")
	m.Send(1, 3, "other")
	ways(t, "sent", m, [2]int{1, 2}, [2]int{1, 3}, [2]int{2, 1})
	takes(t, "there", m, 1, 2, sent("b", "", "a", "a", "\x00\xff")...)
	ways(t, "taken", m, [2]int{1, 3}, [2]int{2, 1})
	takes(t, "back", m, 2, 1, sent("back")...)
	takes(t, "other", m, 1, 3, sent("other")...)
	ways(t, "all taken", m)
	send(m, 1, 2, "again")
	takes(t, "again", m, 1, 2, sent("again")...)
}

func TestSendFromNoLiveNode(t *testing.T) {
	m := up(1, 2)
	for _, from := range append([]int{3, api.MaxNode}, notNodes...) {
		m.Send(from, 1, "a")
		m.Send(from, 4, "a")
		m.Send(from, from, "a")
	}
	ways(t, "never live", m)
	send(m, 1, 2, "a")
	m.Down(2)
	m.Send(2, 1, "b")
	ways(t, "down", m, [2]int{2, 1})
	takes(t, "down", m, 2, 1, broken)
	m.Send(2, 1, "c")
	ways(t, "down, taken", m)
	live(t, "down", m, 1)
}

func TestSendToItself(t *testing.T) {
	m := up(1, 2)
	m.Send(1, 1, "a")
	m.Break(1, 1)
	ways(t, "itself", m)
	takes(t, "itself", m, 1, 1)
}

func TestSendToNoLiveNode(t *testing.T) {
	m := up(1, 2, 3)
	send(m, 1, 4, "a", "b", "c")
	m.Send(2, api.MaxNode, "d")
	ways(t, "never live", m, [2]int{4, 1}, [2]int{api.MaxNode, 2})
	takes(t, "never live", m, 4, 1, broken)
	takes(t, "greatest node", m, api.MaxNode, 2, broken)
	m.Down(3)
	takes(t, "down", m, 3, 1, broken)
	send(m, 1, 3, "a", "b")
	send(m, 2, 3, "c")
	takes(t, "down, sent", m, 3, 1, broken)
	takes(t, "down, sent", m, 3, 2, broken)
	takes(t, "to it", m, 1, 3)
	ways(t, "taken", m)
	live(t, "the others", m, 1, 2)
}

func TestSendToNoNode(t *testing.T) {
	m := up(1, 2)
	m.Send(2, 1, "kept")
	for _, to := range notNodes {
		m.Send(1, to, "a")
		takes(t, "no node", m, 1, to)
	}
	takes(t, "a node", m, 2, 1, sent("kept")...)
	live(t, "no node", m, 1, 2)
}

func TestSendReplacesAfterUp(t *testing.T) {
	m := up(1, 2)
	m.Down(2)
	m.Up(2)
	send(m, 2, 1, "a", "b")
	m.Down(2)
	m.Send(1, 2, "c")
	takes(t, "from it", m, 2, 1, broken)
	ways(t, "taken", m)
}

func TestSendWithoutRoom(t *testing.T) {
	m := up(1, 2, 3)
	send(m, 1, 2, numbers(64)...)
	send(m, 2, 1, "replaced", "replaced too")
	send(m, 1, 3, "kept")
	send(m, 3, 2, "kept")
	if n := m.Len(1, 2); n != api.MaxQueue {
		t.Fatal(n)
	}
	m.Send(1, 2, "no room")
	ways(t, "no room", m, [2]int{1, 2}, [2]int{1, 3}, [2]int{2, 1}, [2]int{3, 2})
	send(m, 1, 2, "next")
	takes(t, "there", m, 1, 2, afterBreak("next")...)
	takes(t, "back", m, 2, 1, broken)
	takes(t, "other", m, 1, 3, sent("kept")...)
	takes(t, "other", m, 3, 2, sent("kept")...)
	live(t, "no room", m, 1, 2, 3)
}

func TestSendJustWithinRoom(t *testing.T) {
	m := up(1, 2)
	send(m, 1, 2, numbers(64)...)
	takes(t, "64", m, 1, 2, sent(numbers(64)...)...)
	m.Break(1, 2)
	send(m, 1, 2, numbers(63)...)
	takes(t, "a break and 63", m, 1, 2, afterBreak(numbers(63)...)...)
	takes(t, "back", m, 2, 1, broken)
	m.Break(1, 2)
	send(m, 1, 2, numbers(64)...)
	takes(t, "a break and 64", m, 1, 2, broken)
	takes(t, "back", m, 2, 1, broken)
}

func TestBreak(t *testing.T) {
	for _, x := range [][2]int{{1, 2}, {2, 1}} {
		m := up(1, 2, 3)
		send(m, 1, 2, "a", "b")
		send(m, 1, 3, "c")
		send(m, 3, 1, "d")
		m.Break(x[0], x[1])
		ways(t, "break", m, [2]int{1, 2}, [2]int{1, 3}, [2]int{2, 1}, [2]int{3, 1})
		m.Break(x[0], x[1])
		send(m, 2, 1, "e")
		takes(t, "there", m, 1, 2, broken)
		takes(t, "back", m, 2, 1, afterBreak("e")...)
		takes(t, "other", m, 1, 3, sent("c")...)
		takes(t, "other", m, 3, 1, sent("d")...)
		live(t, "break", m, 1, 2, 3)
	}
}

func TestBreakOfNoLiveNode(t *testing.T) {
	m := up(1, 2, 3)
	m.Down(3)
	takes(t, "down", m, 3, 1, broken)
	takes(t, "down", m, 3, 2, broken)
	send(m, 1, 2, "a")
	for _, n := range append([]int{3, 4, api.MaxNode}, notNodes...) {
		m.Break(1, n)
		m.Break(n, 1)
		m.Break(n, n)
		m.Break(n, 5)
	}
	m.Break(1, 1)
	ways(t, "no live node", m, [2]int{1, 2})
	takes(t, "no live node", m, 1, 2, sent("a")...)
}

func TestTakeOfNothing(t *testing.T) {
	m := up(1, 2)
	send(m, 1, 2, "a")
	takes(t, "back", m, 2, 1)
	for _, n := range append([]int{1, 3, api.MaxNode}, notNodes...) {
		takes(t, "from", m, n, 1)
		takes(t, "to", m, 1, n)
		takes(t, "both", m, n, n)
	}
	ways(t, "nothing", m, [2]int{1, 2})
	takes(t, "there", m, 1, 2, sent("a")...)
}

func TestWaysInOrder(t *testing.T) {
	m := up(300, 2, 10, 1, api.MaxNode)
	var want [][2]int
	for _, from := range []int{1, 2, 10, 300, api.MaxNode} {
		for _, to := range []int{1, 2, 10, 300, api.MaxNode} {
			if from != to {
				want = append(want, [2]int{from, to})
			}
		}
	}
	for i := range want {
		x := want[(i*7+3)%len(want)]
		send(m, x[0], x[1], "a", "b")
	}
	ways(t, "two items", m, want...)
	for i := range want {
		x := want[(i*3+1)%len(want)]
		m.Take(x[0], x[1])
	}
	ways(t, "one item", m, want...)
	for i, x := range want {
		takes(t, "last item", m, x[0], x[1], sent("b")...)
		ways(t, "taken", m, want[i+1:]...)
	}
}

func TestResultsAreNew(t *testing.T) {
	m := up(1, 2)
	send(m, 1, 2, "a")
	nodes, all := m.Nodes(), m.Ways()
	nodes[0], all[0] = 9, [2]int{9, 9}
	_, _ = append(nodes[:1], 9), append(all, [2]int{9, 9})
	live(t, "new", m, 1, 2)
	ways(t, "new", m, [2]int{1, 2})
}

func TestNilMesh(t *testing.T) {
	var m *mesh.Mesh
	m.Up(1)
	m.Up(2)
	m.Send(1, 2, "a")
	m.Break(1, 2)
	m.Down(1)
	live(t, "nil", m)
	ways(t, "nil", m)
	takes(t, "nil", m, 1, 2)
	takes(t, "nil", m, 2, 1)
}

func TestManyNodes(t *testing.T) {
	m := mesh.New()
	for n := 2000; n > 0; n-- {
		m.Up(n)
	}
	m.Down(1000)
	if l := m.Nodes(); len(l) != 1999 || l[0] != 1 || l[998] != 999 || l[999] != 1001 || l[1998] != 2000 {
		t.Error(len(l))
	}
	l := m.Ways()
	if len(l) != 1999 || l[0] != [2]int{1000, 1} || l[999] != [2]int{1000, 1001} {
		t.Error(len(l))
	}
}

// plain is a mesh of plain lists, for nodes from 1 to 5.
type plain struct {
	live  [6]bool
	items [6][6][]pipe.Item
}

func (p *plain) cut(from, to int) {
	p.items[from][to] = []pipe.Item{broken}
}

func (p *plain) down(n int) {
	p.live[n] = false
	for other := range p.live {
		p.items[other][n] = nil
		if p.live[other] {
			p.cut(n, other)
		}
	}
}

func (p *plain) split(a, b int) {
	if a != b && p.live[a] && p.live[b] {
		p.cut(a, b)
		p.cut(b, a)
	}
}

func (p *plain) send(from, to int, s string) {
	switch l := &p.items[from][to]; {
	case from == to || !p.live[from]:
	case !p.live[to]:
		p.cut(to, from)
	case len(*l) == 64:
		p.split(from, to)
	default:
		*l = append(*l, pipe.Item{Text: s})
	}
}

func (p *plain) take(from, to int) (pipe.Item, bool) {
	l := p.items[from][to]
	if len(l) == 0 {
		return pipe.Item{}, false
	}
	p.items[from][to] = l[1:]
	return l[0], true
}

func (p *plain) ways() [][2]int {
	var l [][2]int
	for from := range p.items {
		for to, items := range p.items[from] {
			if len(items) > 0 {
				l = append(l, [2]int{from, to})
			}
		}
	}
	return l
}

// same reports whether a mesh tells what a plain one does.
func (p *plain) same(m *mesh.Mesh) bool {
	var nodes []int
	for n, ok := range p.live {
		if ok {
			nodes = append(nodes, n)
		}
		if m.Live(n) != ok {
			return false
		}
		for other := range p.live {
			if m.Len(n, other) != len(p.items[n][other]) {
				return false
			}
		}
	}
	return slices.Equal(m.Nodes(), nodes) && slices.Equal(m.Ways(), p.ways())
}

// keeps reports whether nothing is in transit to a node that is not live, and at most a break from one.
func keeps(m *mesh.Mesh) bool {
	for _, w := range m.Ways() {
		if !m.Live(w[1]) || !m.Live(w[0]) && m.Len(w[0], w[1]) != 1 {
			return false
		}
	}
	return true
}

// TestManySteps holds meshes against plain ones.
func TestManySteps(t *testing.T) {
	m, p, x := mesh.New(), &plain{}, uint32(7)
	next := func(n int) int {
		x = x*1664525 + 1013904223
		return int(x>>16) % n
	}
	for i := range 60000 {
		a, b := next(5)+1, next(5)+1
		switch n := next(400); {
		case n < 4:
			m.Up(a)
			p.live[a] = true
		case n < 5:
			if m.Live(a) {
				m.Down(a)
				p.down(a)
			}
		case n < 7:
			m.Break(a, b)
			p.split(a, b)
		case n < 330:
			m.Send(a, b, strconv.Itoa(i))
			p.send(a, b, strconv.Itoa(i))
		default:
			got, ok := m.Take(a, b)
			if want, some := p.take(a, b); got != want || ok != some {
				t.Fatal(i, a, b, got, ok, want, some)
			}
		}
		if !p.same(m) || !keeps(m) {
			t.Fatal(i, a, b, m.Nodes(), m.Ways(), p.ways())
		}
	}
}
