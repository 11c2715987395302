package hand_test

import (
	"math"
	"slices"
	"testing"

	"bellhop/api"
	"bellhop/draw"
	"bellhop/hand"
	"bellhop/message"
)

const self = 9

// notNodes are numbers that are no nodes.
var notNodes = []int{0, -1, -7, math.MinInt, api.MaxNode + 1, 2*api.MaxNode + 2, math.MaxInt}

// state of a hand: who is active, passive, asked.
type state struct {
	active, passive, asked []int
}

// nodes is a short form of a list of nodes.
func nodes(l ...int) []int {
	return l
}

// of returns a hand of self that calls made, with room for so many and with these nodes.
func of(t *testing.T, active, passive int, s state) hand.Hand {
	t.Helper()
	h := hand.New(self, active, passive)
	// Asked first: whoever is active is not asked any more.
	for _, n := range s.asked {
		h, _ = h.Ask(n, false)
	}
	for _, n := range s.active {
		h, _ = h.OnAsk(n, false, nil)
	}
	for _, n := range s.passive {
		h.View = h.View.Know(n, nil)
	}
	holds(t, "made", h, s)
	return h
}

// holds checks the nodes of a hand, and that its view keeps its rules.
func holds(t *testing.T, name string, h hand.Hand, want state) {
	t.Helper()
	if h.View.Self != self {
		t.Errorf("%s: self is %d", name, h.View.Self)
	}
	if got := h.View.Active.All(); !slices.Equal(got, want.active) {
		t.Errorf("%s: active %v, want %v", name, got, want.active)
	}
	if got := h.View.Passive.All(); !slices.Equal(got, want.passive) {
		t.Errorf("%s: passive %v, want %v", name, got, want.passive)
	}
	if got := h.Asked.All(); !slices.Equal(got, want.asked) {
		t.Errorf("%s: asked %v, want %v", name, got, want.asked)
	}
	if !h.View.Sane() {
		t.Errorf("%s: not sane", name)
	}
}

// ask, yes, no and bye are messages to a node.
func ask(to int, high bool) hand.Out {
	return hand.Out{To: to, Msg: message.Msg{Kind: message.Ask, High: high}}
}

func yes(to int) hand.Out {
	return hand.Out{To: to, Msg: message.Msg{Kind: message.Yes}}
}

func no(to int) hand.Out {
	return hand.Out{To: to, Msg: message.Msg{Kind: message.No}}
}

func bye(to int) hand.Out {
	return hand.Out{To: to, Msg: message.Msg{Kind: message.Bye}}
}

// outs is a short form of a list of messages.
func outs(l ...hand.Out) []hand.Out {
	return l
}

// sends checks which messages are sent, with all their fields.
func sends(t *testing.T, name string, got, want []hand.Out) {
	t.Helper()
	same := func(a, b hand.Out) bool { return a.To == b.To && message.Same(a.Msg, b.Msg) }
	if !slices.EqualFunc(got, want, same) {
		t.Errorf("%s: sent %+v, want %+v", name, got, want)
	}
}

// left checks how many numbers of a draw have not been consumed.
func left(t *testing.T, name string, d *draw.Draw, want int) {
	t.Helper()
	if d.Left() != want {
		t.Errorf("%s: %d numbers left, want %d", name, d.Left(), want)
	}
}

func TestExample(t *testing.T) {
	h, sent := hand.New(1, 3, 3).Ask(2, false)
	sends(t, "ask", sent, outs(ask(2, false)))
	if h.View.Active.Has(2) {
		t.Error("active before its answer")
	}
	h, sent = h.OnYes(2, nil)
	sends(t, "yes", sent, nil)
	if !h.View.Active.Has(2) || h.View.Active.Len() != 1 || h.Asked.Len() != 0 {
		t.Error("not active", h)
	}
}

func TestNew(t *testing.T) {
	for _, n := range append(nodes(1, 7, api.MaxNode), notNodes...) {
		h := hand.New(n, 2, 3)
		if h.View.Self != n || h.View.Active.Len() != 0 || h.View.Passive.Len() != 0 || h.Asked.Len() != 0 {
			t.Error(n, h)
		}
	}
	capacities := []struct{ most, want int }{
		{0, 0}, {1, 1}, {3, 3}, {64, 64}, {65, 64}, {math.MaxInt, 64}, {-1, 0}, {math.MinInt, 0},
	}
	for _, x := range capacities {
		a, p := hand.New(self, x.most, 2), hand.New(self, 2, x.most)
		for n := 101; n <= 170; n++ {
			a, _ = a.OnAsk(n, false, nil)
			p.View = p.View.Know(n, nil)
		}
		if a.View.Active.Len() != x.want || p.View.Passive.Len() != x.want {
			t.Error(x.most, a, p)
		}
	}
}

func TestAsk(t *testing.T) {
	before := state{active: nodes(2, 4), passive: nodes(3, 6), asked: nodes(4, 7)}
	h := of(t, 2, 2, before)
	tests := []struct {
		name  string
		n     int
		asked []int
	}{
		{"unknown", 5, nodes(4, 5, 7)},
		{"passive", 6, nodes(4, 6, 7)},
		{"first node", 1, nodes(1, 4, 7)},
		{"last node", api.MaxNode, nodes(4, 7, api.MaxNode)},
		{"active", 2, nil},
		{"active and asked", 4, nil},
		{"asked", 7, nil},
		{"self", self, nil},
	}
	for _, x := range tests {
		for _, high := range []bool{false, true} {
			after, want := before, outs()
			if x.asked != nil {
				after.asked, want = x.asked, outs(ask(x.n, high))
			}
			got, sent := h.Ask(x.n, high)
			holds(t, x.name, got, after)
			sends(t, x.name, sent, want)
			holds(t, "before", h, before)
		}
	}
	for _, n := range notNodes {
		got, sent := h.Ask(n, true)
		holds(t, "not a node", got, before)
		sends(t, "not a node", sent, nil)
		got, sent = hand.New(n, 2, 2).Ask(n, true)
		if got.Asked.Len() != 0 || got.View.Self != n {
			t.Error("asked itself", n)
		}
		sends(t, "not a node asks itself", sent, nil)
	}
}

// TestAskWithoutRoom asks by a hand without capacities: only the answer needs room.
func TestAskWithoutRoom(t *testing.T) {
	h, sent := of(t, 0, 0, state{}).Ask(2, true)
	holds(t, "no capacities", h, state{asked: nodes(2)})
	sends(t, "no capacities", sent, outs(ask(2, true)))
}

func TestAskMany(t *testing.T) {
	h, all := of(t, 2, 2, state{active: nodes(1)}), state{active: nodes(1)}
	for n := 101; n <= 164; n++ {
		var sent []hand.Out
		h, sent = h.Ask(n, n%2 == 0)
		all.asked = append(all.asked, n)
		holds(t, "some are asked", h, all)
		sends(t, "some are asked", sent, outs(ask(n, n%2 == 0)))
	}
	for _, n := range nodes(1, 2, 100, 101, 164, 165, api.MaxNode, self) {
		got, sent := h.Ask(n, true)
		holds(t, "too many are asked", got, all)
		sends(t, "too many are asked", sent, nil)
	}
	h, _ = h.OnNo(130, nil)
	h, sent := h.Ask(2, true)
	if h.Asked.Len() != 64 || !h.Asked.Has(2) || h.Asked.Has(130) {
		t.Error("room again", h.Asked.All())
	}
	sends(t, "room again", sent, outs(ask(2, true)))
}

// TestOnAskActive answers whoever is active already, even if there is no room.
func TestOnAskActive(t *testing.T) {
	for _, most := range []int{2, 3} {
		before := state{active: nodes(2, 4), passive: nodes(3), asked: nodes(4)}
		h, d := of(t, most, 1, before), draw.New(1, 1)
		for _, n := range before.active {
			for _, high := range []bool{false, true} {
				got, sent := h.OnAsk(n, high, d)
				holds(t, "active", got, before)
				sends(t, "active", sent, outs(yes(n)))
			}
		}
		left(t, "active", d, 2)
	}
}

func TestOnAskRefused(t *testing.T) {
	full := state{active: nodes(2, 4), passive: nodes(3), asked: nodes(7)}
	room := state{active: nodes(2), passive: nodes(3), asked: nodes(7)}
	none := state{passive: nodes(3), asked: nodes(7)}
	d := draw.New(1, 1)
	refused := func(name string, most int, before state, n int, high bool) {
		t.Helper()
		h := of(t, most, 1, before)
		got, sent := h.OnAsk(n, high, d)
		holds(t, name, got, before)
		sends(t, name, sent, outs(no(n)))
	}
	for _, high := range []bool{false, true} {
		for _, n := range append(nodes(self), notNodes...) {
			refused("self or not a node, full", 2, full, n, high)
			refused("self or not a node, room", 2, room, n, high)
			refused("self or not a node, no capacity", 0, none, n, high)
		}
		for _, n := range nodes(1, 3, 7, api.MaxNode) {
			refused("no capacity", 0, none, n, high)
			refused("negative capacity", -1, none, n, high)
		}
	}
	for _, n := range nodes(1, 3, 7, api.MaxNode) {
		refused("no room", 2, full, n, false)
	}
	for _, n := range notNodes {
		got, sent := hand.New(n, 2, 2).OnAsk(n, true, d)
		if got.View.Active.Len() != 0 || got.View.Self != n {
			t.Error("admitted itself", n)
		}
		sends(t, "not a node by itself", sent, outs(no(n)))
	}
	left(t, "refused", d, 2)
}

func TestOnAskRoom(t *testing.T) {
	before := state{active: nodes(4), passive: nodes(3, 6), asked: nodes(7)}
	h, d := of(t, 2, 2, before), draw.New(1, 1)
	tests := []struct {
		name  string
		n     int
		after state
	}{
		{"unknown", 5, state{nodes(4, 5), nodes(3, 6), nodes(7)}},
		{"first node", 1, state{nodes(1, 4), nodes(3, 6), nodes(7)}},
		{"last node", api.MaxNode, state{nodes(4, api.MaxNode), nodes(3, 6), nodes(7)}},
		{"passive", 3, state{nodes(3, 4), nodes(6), nodes(7)}},
		{"asked", 7, state{nodes(4, 7), nodes(3, 6), nodes(7)}},
	}
	for _, x := range tests {
		for _, high := range []bool{false, true} {
			got, sent := h.OnAsk(x.n, high, d)
			holds(t, x.name, got, x.after)
			sends(t, x.name, sent, outs(yes(x.n)))
			holds(t, "before", h, before)
		}
	}
	left(t, "there was room", d, 2)
}

// TestOnAskEvicts: the evicted node is told first, is no longer asked, and is passive.
func TestOnAskEvicts(t *testing.T) {
	before := state{active: nodes(2, 4, 6), passive: nodes(3), asked: nodes(4, 7)}
	h := of(t, 3, 5, before)
	tests := []struct {
		x     uint32
		n     int
		after state
		out   int
	}{
		{0, 5, state{nodes(4, 5, 6), nodes(2, 3), nodes(4, 7)}, 2},
		{1, 5, state{nodes(2, 5, 6), nodes(3, 4), nodes(7)}, 4},
		{2, 5, state{nodes(2, 4, 5), nodes(3, 6), nodes(4, 7)}, 6},
		{4, 3, state{nodes(2, 3, 6), nodes(4), nodes(7)}, 4},
		{1, 7, state{nodes(2, 6, 7), nodes(3, 4), nodes(7)}, 4},
		{math.MaxUint32, 1, state{nodes(1, 4, 6), nodes(2, 3), nodes(4, 7)}, 2},
		{2, api.MaxNode, state{nodes(2, 4, api.MaxNode), nodes(3, 6), nodes(4, 7)}, 6},
	}
	for _, x := range tests {
		d := draw.New(x.x, 1)
		got, sent := h.OnAsk(x.n, true, d)
		holds(t, "high", got, x.after)
		sends(t, "high", sent, outs(bye(x.out), yes(x.n)))
		left(t, "high", d, 1)
		holds(t, "before", h, before)
	}
	got, sent := h.OnAsk(5, true, nil)
	holds(t, "no draw", got, tests[0].after)
	sends(t, "no draw", sent, outs(bye(2), yes(5)))
}

// TestOnAskEvictsFirst: the evicted node is known while the new one is still passive, so it may replace just that one.
func TestOnAskEvictsFirst(t *testing.T) {
	h := of(t, 2, 2, state{active: nodes(2, 4), passive: nodes(3, 6)})
	tests := []struct {
		x, y    uint32
		n, out  int
		active  []int
		passive []int
	}{
		{0, 0, 3, 2, nodes(3, 4), nodes(2, 6)},
		{0, 1, 3, 2, nodes(3, 4), nodes(2)},
		{1, 0, 6, 4, nodes(2, 6), nodes(4)},
		{1, 1, 6, 4, nodes(2, 6), nodes(3, 4)},
		{1, 0, 5, 4, nodes(2, 5), nodes(4, 6)},
		{0, 1, 5, 2, nodes(4, 5), nodes(2, 3)},
	}
	for _, x := range tests {
		d := draw.New(x.x, x.y, 7)
		got, sent := h.OnAsk(x.n, true, d)
		holds(t, "passive are full", got, state{active: x.active, passive: x.passive})
		sends(t, "passive are full", sent, outs(bye(x.out), yes(x.n)))
		left(t, "passive are full", d, 1)
	}
	d := draw.New(1, 7)
	got, sent := of(t, 2, 0, state{active: nodes(2, 4)}).OnAsk(3, true, d)
	holds(t, "none can be passive", got, state{active: nodes(2, 3)})
	sends(t, "none can be passive", sent, outs(bye(4), yes(3)))
	left(t, "none can be passive", d, 1)
	got, sent = of(t, 1, 1, state{active: nodes(4), passive: nodes(3)}).OnAsk(3, true, d)
	holds(t, "places are swapped", got, state{active: nodes(3), passive: nodes(4)})
	sends(t, "places are swapped", sent, outs(bye(4), yes(3)))
	left(t, "places are swapped", d, 1)
}

func TestOnYesAsked(t *testing.T) {
	before := state{active: nodes(2, 4), passive: nodes(3, 6), asked: nodes(3, 4, 7)}
	h, d := of(t, 3, 3, before), draw.New(1, 1)
	tests := []struct {
		name  string
		n     int
		after state
	}{
		{"unknown", 7, state{nodes(2, 4, 7), nodes(3, 6), nodes(3, 4)}},
		{"passive", 3, state{nodes(2, 3, 4), nodes(6), nodes(4, 7)}},
		{"active", 4, state{nodes(2, 4), nodes(3, 6), nodes(3, 7)}},
	}
	for _, x := range tests {
		got, sent := h.OnYes(x.n, d)
		holds(t, x.name, got, x.after)
		sends(t, x.name, sent, nil)
		holds(t, "before", h, before)
	}
	left(t, "there was room", d, 2)
}

func TestOnYesAskedFull(t *testing.T) {
	before := state{active: nodes(2, 4), passive: nodes(3, 6), asked: nodes(2, 3, 4, 7)}
	h := of(t, 2, 2, before)
	tests := []struct {
		name  string
		x, y  uint32
		n     int
		after state
		sent  []hand.Out
		left  int
	}{
		{"first", 0, 0, 7, state{nodes(4, 7), nodes(2, 6), nodes(3, 4)}, outs(bye(2)), 1},
		{"last", 1, 1, 7, state{nodes(2, 7), nodes(3, 4), nodes(2, 3)}, outs(bye(4)), 1},
		{"passive", 3, 2, 3, state{nodes(2, 3), nodes(4, 6), nodes(2, 7)}, outs(bye(4)), 1},
		{"passive stays", 3, 3, 3, state{nodes(2, 3), nodes(4), nodes(2, 7)}, outs(bye(4)), 1},
		{"active", 1, 1, 4, state{nodes(2, 4), nodes(3, 6), nodes(2, 3, 7)}, nil, 3},
	}
	for _, x := range tests {
		d := draw.New(x.x, x.y, 7)
		got, sent := h.OnYes(x.n, d)
		holds(t, x.name, got, x.after)
		sends(t, x.name, sent, x.sent)
		left(t, x.name, d, x.left)
		holds(t, "before", h, before)
	}
	d := draw.New(1, 1)
	got, sent := of(t, 0, 2, state{passive: nodes(3), asked: nodes(3, 7)}).OnYes(3, d)
	holds(t, "no capacity", got, state{passive: nodes(3), asked: nodes(7)})
	sends(t, "no capacity", sent, nil)
	left(t, "no capacity", d, 2)
}

func TestOnYesNotAsked(t *testing.T) {
	before := state{active: nodes(2, 4), passive: nodes(3), asked: nodes(7)}
	for _, most := range []int{2, 3} {
		h, d := of(t, most, 1, before), draw.New(1, 1)
		for _, n := range append(nodes(1, 3, 5, 8, api.MaxNode, self), notNodes...) {
			got, sent := h.OnYes(n, d)
			holds(t, "not asked", got, before)
			sends(t, "not asked", sent, outs(bye(n)))
		}
		for _, n := range before.active {
			got, sent := h.OnYes(n, d)
			holds(t, "active", got, before)
			sends(t, "active", sent, nil)
		}
		left(t, "not asked", d, 2)
	}
}

func TestOnNo(t *testing.T) {
	before := state{active: nodes(2, 4), passive: nodes(3), asked: nodes(3, 4, 7)}
	h, d := of(t, 2, 4, before), draw.New(1, 1)
	tests := []struct {
		name  string
		n     int
		after state
		sent  []hand.Out
	}{
		{"asked", 7, state{nodes(2, 4), nodes(3), nodes(3, 4)}, nil},
		{"asked and passive", 3, state{nodes(2, 4), nodes(3), nodes(4, 7)}, nil},
		{"asked and active", 4, state{nodes(2), nodes(3, 4), nodes(3, 7)}, outs(bye(4))},
		{"active", 2, state{nodes(4), nodes(2, 3), nodes(3, 4, 7)}, outs(bye(2))},
		{"unknown", 5, before, nil},
		{"last node", api.MaxNode, before, nil},
		{"self", self, before, nil},
	}
	for _, x := range tests {
		got, sent := h.OnNo(x.n, d)
		holds(t, x.name, got, x.after)
		sends(t, x.name, sent, x.sent)
		holds(t, "before", h, before)
	}
	for _, n := range notNodes {
		got, sent := h.OnNo(n, d)
		holds(t, "not a node", got, before)
		sends(t, "not a node", sent, nil)
	}
	left(t, "there was room", d, 2)
}

func TestOnBye(t *testing.T) {
	before := state{active: nodes(2, 4), passive: nodes(3), asked: nodes(3, 4, 7)}
	h, d := of(t, 2, 4, before), draw.New(1, 1)
	tests := []struct {
		name  string
		n     int
		after state
	}{
		{"active", 2, state{nodes(4), nodes(2, 3), nodes(3, 4, 7)}},
		{"asked and active", 4, state{nodes(2), nodes(3, 4), nodes(3, 4, 7)}},
		{"asked", 7, before},
		{"asked and passive", 3, before},
		{"unknown", 5, before},
		{"last node", api.MaxNode, before},
		{"self", self, before},
	}
	for _, x := range tests {
		holds(t, x.name, h.OnBye(x.n, d), x.after)
		holds(t, "before", h, before)
	}
	for _, n := range notNodes {
		holds(t, "not a node", h.OnBye(n, d), before)
	}
	left(t, "there was room", d, 2)
}

// TestLeaveFull: who leaves becomes known instead of a drawn passive node.
func TestLeaveFull(t *testing.T) {
	h := of(t, 2, 3, state{active: nodes(4), passive: nodes(2, 5, 7), asked: nodes(4)})
	for i, passive := range [][]int{nodes(4, 5, 7), nodes(2, 4, 7), nodes(2, 4, 5), nodes(4, 5, 7)} {
		d := draw.New(uint32(i), 1)
		got, sent := h.OnNo(4, d)
		holds(t, "no", got, state{passive: passive})
		sends(t, "no", sent, outs(bye(4)))
		left(t, "no", d, 1)
		d = draw.New(uint32(i), 1)
		holds(t, "bye", h.OnBye(4, d), state{passive: passive, asked: nodes(4)})
		left(t, "bye", d, 1)
	}
	h = of(t, 2, 0, state{active: nodes(2, 4), asked: nodes(4)})
	d := draw.New(1)
	got, sent := h.OnNo(4, d)
	holds(t, "no, none can be passive", got, state{active: nodes(2)})
	sends(t, "no, none can be passive", sent, outs(bye(4)))
	holds(t, "bye, none can be passive", h.OnBye(4, d), state{active: nodes(2), asked: nodes(4)})
	left(t, "none can be passive", d, 1)
}

func TestOnBreak(t *testing.T) {
	before := state{active: nodes(2, 4), passive: nodes(3, 6), asked: nodes(3, 4, 7)}
	h := of(t, 2, 2, before)
	tests := []struct {
		name  string
		n     int
		after state
	}{
		{"active", 2, state{nodes(4), nodes(3, 6), nodes(3, 4, 7)}},
		{"asked and active", 4, state{nodes(2), nodes(3, 6), nodes(3, 7)}},
		{"passive", 6, state{nodes(2, 4), nodes(3), nodes(3, 4, 7)}},
		{"asked and passive", 3, state{nodes(2, 4), nodes(6), nodes(4, 7)}},
		{"asked", 7, state{nodes(2, 4), nodes(3, 6), nodes(3, 4)}},
		{"unknown", 5, before},
		{"last node", api.MaxNode, before},
		{"self", self, before},
	}
	for _, x := range tests {
		holds(t, x.name, h.OnBreak(x.n), x.after)
		holds(t, "before", h, before)
	}
	for _, n := range notNodes {
		holds(t, "not a node", h.OnBreak(n), before)
	}
	again, sent := h.OnBreak(7).Ask(7, true)
	holds(t, "asked again", again, before)
	sends(t, "asked again", sent, outs(ask(7, true)))
}

// TestHandsAreNotModified changes a hand in all ways, and then what came of it.
func TestHandsAreNotModified(t *testing.T) {
	before := state{active: nodes(2, 4, 6), passive: nodes(3, 5), asked: nodes(4, 7, 8)}
	h := of(t, 3, 3, before)
	for n := range 12 {
		d := draw.New(uint32(n), 1, 2, 3, 4, 5, 6)
		l := all(h, n, d)
		for _, x := range l {
			after := state{x.View.Active.All(), x.View.Passive.All(), x.Asked.All()}
			for m := range 12 {
				all(x, m, d)
			}
			holds(t, "second", x, after)
		}
		holds(t, "first", h, before)
	}
}

// all returns what becomes of a hand by each of its calls with n.
func all(h hand.Hand, n int, d *draw.Draw) []hand.Hand {
	asked, _ := h.Ask(n, true)
	low, _ := h.OnAsk(n, false, d)
	high, _ := h.OnAsk(n, true, d)
	yes, _ := h.OnYes(n, d)
	no, _ := h.OnNo(n, d)
	return []hand.Hand{asked, low, high, yes, no, h.OnBye(n, d), h.OnBreak(n)}
}
