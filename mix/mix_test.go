package mix_test

import (
	"math"
	"slices"
	"testing"

	"bellhop/api"
	"bellhop/draw"
	"bellhop/hand"
	"bellhop/message"
	"bellhop/mix"
	"bellhop/view"
)

const self = 9

// notNodes are numbers that are no nodes.
var notNodes = []int{0, -1, -7, math.MinInt, api.MaxNode + 1, 2*api.MaxNode + 2, math.MaxInt}

// nodes is a short form of a list of nodes.
func nodes(l ...int) []int {
	return l
}

// upTo returns the numbers from one to another one.
func upTo(first, last int) []int {
	var l []int
	for n := first; n <= last; n++ {
		l = append(l, n)
	}
	return l
}

// of returns a view of self with room for so many and with these nodes, which may be in any order.
func of(t *testing.T, active, passive int, a, p []int) view.View {
	t.Helper()
	v := view.New(self, active, passive)
	for _, n := range a {
		var ok bool
		if v, ok = v.Join(n); !ok {
			t.Fatal("no room for", n)
		}
	}
	for _, n := range p {
		v = v.Know(n, nil)
	}
	holds(t, "made", v, slices.Sorted(slices.Values(a)), slices.Sorted(slices.Values(p)))
	return v
}

// holds checks Self, the nodes of a view, and that it keeps its rules.
func holds(t *testing.T, name string, v view.View, active, passive []int) {
	t.Helper()
	if v.Self != self {
		t.Errorf("%s: self is %d", name, v.Self)
	}
	if got := v.Active.All(); !slices.Equal(got, active) {
		t.Errorf("%s: active %v, want %v", name, got, active)
	}
	if got := v.Passive.All(); !slices.Equal(got, passive) {
		t.Errorf("%s: passive %v, want %v", name, got, passive)
	}
	if !v.Sane() {
		t.Errorf("%s: not sane", name)
	}
}

// sends checks which messages are sent, with all their fields.
func sends(t *testing.T, name string, got []hand.Out, want ...hand.Out) {
	t.Helper()
	same := func(a, b hand.Out) bool { return a.To == b.To && message.Same(a.Msg, b.Msg) }
	if !slices.EqualFunc(got, want, same) {
		t.Errorf("%s: sent %+v, want %+v", name, got, want)
	}
}

// left checks how many numbers of a draw have not been consumed.
func left(t *testing.T, name string, d *draw.Draw, want int) {
	t.Helper()
	if d.Left() != want {
		t.Errorf("%s: %d numbers left, want %d", name, d.Left(), want)
	}
}

// shuffle returns the message with a sample.
func shuffle(node, walk int, l ...int) message.Msg {
	return message.Msg{Kind: message.Shuffle, Node: node, Walk: walk, Nodes: l}
}

// mixed returns the message that answers a sample.
func mixed(to int, l ...int) hand.Out {
	return hand.Out{To: to, Msg: message.Msg{Kind: message.Mixed, Nodes: l}}
}

func TestExample(t *testing.T) {
	for _, s := range []mix.Sizes{{}, {3, 3}, {math.MaxInt, math.MaxInt}} {
		if got := mix.Sample(view.New(1, 3, 3), s, draw.New(1)); !slices.Equal(got, nodes(1)) {
			t.Error(s, got)
		}
	}
}

func TestSample(t *testing.T) {
	v := of(t, 5, 5, nodes(30, 4, 8), nodes(25, 5, 7, 6))
	tests := []struct {
		name string
		s    mix.Sizes
		l    []uint32
		want []int
		left int
	}{
		{"nothing of either", mix.Sizes{}, []uint32{1, 7}, nodes(self), 2},
		{"one active", mix.Sizes{Active: 1}, []uint32{1, 7}, nodes(self, 8), 1},
		{"one passive", mix.Sizes{Passive: 1}, []uint32{1, 7}, nodes(self, 6), 1},
		{"one each", mix.Sizes{Active: 1, Passive: 1}, []uint32{2, 3, 7}, nodes(self, 30, 25), 1},
		{"first each", mix.Sizes{Active: 1, Passive: 1}, []uint32{3, 4, 7}, nodes(self, 4, 5), 1},
		{"two active", mix.Sizes{Active: 2}, []uint32{1, 1, 7}, nodes(self, 8, 30), 1},
		{"two passive", mix.Sizes{Passive: 2}, []uint32{3, 1, 7}, nodes(self, 25, 6), 1},
		{"two each", mix.Sizes{Active: 2, Passive: 2}, []uint32{2, 0, 1, 2, 7}, nodes(self, 30, 4, 6, 25), 1},
		{"all active", mix.Sizes{Active: 3}, []uint32{1, 1, 7}, nodes(self, 8, 30, 4), 1},
		{"all", mix.Sizes{Active: 3, Passive: 4}, []uint32{2, 1, 3, 2, 1, 7}, nodes(self, 30, 8, 4, 25, 7, 6, 5), 1},
		{"more than all", mix.Sizes{Active: 4, Passive: 64}, []uint32{2, 1, 3, 2, 1, 7}, nodes(self, 30, 8, 4, 25, 7, 6, 5), 1},
		{"greatest", mix.Sizes{Active: math.MaxInt, Passive: math.MaxInt}, nil, nodes(self, 4, 8, 30, 5, 6, 7, 25), 0},
		{"negative", mix.Sizes{Active: -1, Passive: math.MinInt}, []uint32{1}, nodes(self), 1},
		{"negative active", mix.Sizes{Active: -3, Passive: 1}, []uint32{1}, nodes(self, 6), 0},
		{"negative passive", mix.Sizes{Active: 1, Passive: -3}, []uint32{1}, nodes(self, 8), 0},
	}
	for _, x := range tests {
		d := draw.New(x.l...)
		if got := mix.Sample(v, x.s, d); !slices.Equal(got, x.want) {
			t.Errorf("%s: %v, want %v", x.name, got, x.want)
		}
		left(t, x.name, d, x.left)
	}
	if got := mix.Sample(v, mix.Sizes{Active: 2, Passive: 2}, nil); !slices.Equal(got, nodes(self, 4, 8, 5, 6)) {
		t.Error("no draw", got)
	}
	holds(t, "after", v, nodes(4, 8, 30), nodes(5, 6, 7, 25))
}

func TestSampleMany(t *testing.T) {
	tests := []struct {
		active, passive int // nodes of the view
		s               mix.Sizes
		a, p            int // nodes of the sample
	}{
		{64, 64, mix.Sizes{Active: 64, Passive: 64}, 63, 0},
		{64, 64, mix.Sizes{Active: 63, Passive: 64}, 63, 0},
		{64, 64, mix.Sizes{Active: 62, Passive: 64}, 62, 1},
		{64, 64, mix.Sizes{Active: 40, Passive: 40}, 40, 23},
		{64, 64, mix.Sizes{Active: 40, Passive: 23}, 40, 23},
		{64, 64, mix.Sizes{Active: 40, Passive: 22}, 40, 22},
		{64, 64, mix.Sizes{Active: 0, Passive: 64}, 0, 63},
		{2, 64, mix.Sizes{Active: 64, Passive: 64}, 2, 61},
		{64, 2, mix.Sizes{Active: math.MaxInt, Passive: math.MaxInt}, 63, 0},
	}
	for _, x := range tests {
		v := of(t, 64, 64, upTo(101, 100+x.active), upTo(201, 200+x.passive))
		want := append(nodes(self), upTo(101, 100+x.a)...)
		want = append(want, upTo(201, 200+x.p)...)
		if got := mix.Sample(v, x.s, nil); !slices.Equal(got, want) {
			t.Errorf("%+v: %v, want %v", x, got, want)
		}
	}
}

// TestStart: the active node is drawn before the sample.
func TestStart(t *testing.T) {
	v := of(t, 5, 5, nodes(30, 4, 8), nodes(25, 5, 7, 6))
	s := mix.Sizes{Active: 2, Passive: 1}
	d := draw.New(1, 2, 0, 3, 7)
	sends(t, "some", mix.Start(v, s, 5, d), hand.Out{To: 8, Msg: shuffle(self, 5, self, 30, 4, 25)})
	left(t, "some", d, 1)
	d = draw.New(5, 0, 1, 6, 7)
	sends(t, "others", mix.Start(v, s, 1, d), hand.Out{To: 30, Msg: shuffle(self, 1, self, 4, 30, 7)})
	left(t, "others", d, 1)
	sends(t, "no draw", mix.Start(v, s, 2, nil), hand.Out{To: 4, Msg: shuffle(self, 2, self, 4, 8, 5)})
	sends(t, "no sizes", mix.Start(v, mix.Sizes{}, 2, draw.New(2)), hand.Out{To: 30, Msg: shuffle(self, 2, self)})
	one := of(t, 5, 5, nodes(4), nil)
	d = draw.New(1, 7)
	sends(t, "one", mix.Start(one, s, 2, d), hand.Out{To: 4, Msg: shuffle(self, 2, self, 4)})
	left(t, "one", d, 2)
	holds(t, "after", v, nodes(4, 8, 30), nodes(5, 6, 7, 25))
}

func TestStartWalk(t *testing.T) {
	v := of(t, 2, 2, nodes(4), nil)
	tests := []struct{ walk, want int }{
		{0, 0}, {1, 1}, {14, 14}, {15, 15}, {16, 15}, {1000, 15}, {math.MaxInt, 15}, {-1, 0}, {-15, 0}, {math.MinInt, 0},
	}
	for _, x := range tests {
		sends(t, "walk", mix.Start(v, mix.Sizes{}, x.walk, nil), hand.Out{To: 4, Msg: shuffle(self, x.want, self)})
	}
}

func TestStartAlone(t *testing.T) {
	d := draw.New(1, 1)
	for _, v := range []view.View{of(t, 3, 3, nil, nodes(2, 5, 7)), of(t, 3, 3, nil, nil), of(t, 0, 0, nil, nil)} {
		sends(t, "none is active", mix.Start(v, mix.Sizes{Active: 2, Passive: 2}, 5, d))
	}
	left(t, "none is active", d, 2)
}

// TestStartMany: what is sent is valid even if all nodes are known.
func TestStartMany(t *testing.T) {
	v := of(t, 64, 64, upTo(101, 164), upTo(201, 264))
	sent := mix.Start(v, mix.Sizes{Active: 64, Passive: 64}, 99, nil)
	sends(t, "many", sent, hand.Out{To: 101, Msg: shuffle(self, 15, append(nodes(self), upTo(101, 163)...)...)})
	if _, e := message.Encode(sent[0].Msg); e != api.OK {
		t.Error(e)
	}
}

func TestShuffleContinues(t *testing.T) {
	v := of(t, 5, 4, nodes(30, 4, 8), nodes(2, 5, 7))
	tests := []struct {
		name       string
		from, node int
		next       []int
	}{
		{"neither is active", 1, 3, nodes(4, 8, 30)},
		{"from is active", 8, 3, nodes(4, 30)},
		{"node is active", 1, 30, nodes(4, 8)},
		{"both are active", 4, 8, nodes(30)},
		{"both are the same", 4, 4, nodes(8, 30)},
		{"node is self", 4, self, nodes(8, 30)},
		{"not a node", 4, 0, nodes(8, 30)},
	}
	for _, x := range tests {
		for _, walk := range []int{1, 2, 3, 14, 15} {
			for i := range 2 * len(x.next) {
				d := draw.New(uint32(i), 7, 7)
				to := x.next[i%len(x.next)]
				got, sent := mix.OnShuffle(v, x.from, shuffle(x.node, walk, 3, 6, 2, 2, 8, self), d)
				holds(t, x.name, got, nodes(4, 8, 30), nodes(2, 5, 7))
				sends(t, x.name, sent, hand.Out{To: to, Msg: shuffle(x.node, walk-1, 3, 6, 2, 2, 8, self)})
				left(t, x.name, d, 3-min(1, len(x.next)-1))
			}
		}
	}
}

// TestShuffleContinuesWhole: all other fields stay as they are, and the lists are new ones.
func TestShuffleContinuesWhole(t *testing.T) {
	v := of(t, 5, 4, nodes(4), nil)
	whole := func(walk int) message.Msg {
		return message.Msg{
			Kind: message.Shuffle, Node: 3, Walk: walk, High: true, Nodes: nodes(3, 6),
			Ids:  []message.Id{{Key: "a", Ver: 1}, {Key: "b", Ver: 2}},
			Recs: []message.Rec{{Id: message.Id{Key: "c", Ver: 3}, Origin: 4, Age: 5, Gone: true, Data: "d"}},
		}
	}
	m := whole(7)
	_, sent := mix.OnShuffle(v, 3, m, nil)
	sends(t, "whole", sent, hand.Out{To: 4, Msg: whole(6)})
	if !message.Same(m, whole(7)) {
		t.Error("modified", m)
	}
	m.Nodes[0], m.Ids[1].Key, m.Recs[0].Data = 77, "x", "y"
	sends(t, "kept", sent, hand.Out{To: 4, Msg: whole(6)})
}

// TestShuffleEnds: because no steps are left, or because there is no other active node.
func TestShuffleEnds(t *testing.T) {
	tests := []struct {
		name             string
		active           []int
		from, node, walk int
	}{
		{"no steps", nodes(4, 8, 30), 1, 3, 0},
		{"less than no steps", nodes(4, 8, 30), 1, 3, -1},
		{"least", nodes(4, 8, 30), 1, 3, math.MinInt},
		{"none is active", nil, 1, 3, 5},
		{"only from is active", nodes(4), 4, 3, 5},
		{"only from and the node are active", nodes(4, 8), 4, 8, 15},
		{"only the node is active", nodes(4), 1, 4, 1},
		{"both are the same", nodes(4), 4, 4, 1},
	}
	for _, x := range tests {
		v := of(t, 3, 9, x.active, nodes(25, 2, 7, 5))
		d := draw.New(1, 2, 7)
		got, sent := mix.OnShuffle(v, x.from, shuffle(x.node, x.walk, 6, 12), d)
		holds(t, x.name, got, x.active, nodes(2, 5, 6, 7, 12, 25))
		sends(t, x.name, sent, mixed(x.node, 5, 25))
		left(t, x.name, d, 1)
		holds(t, "before", v, x.active, nodes(2, 5, 7, 25))
	}
}

// TestShuffleAnswer: as many passive nodes as the sample has nodes, drawn before these are known.
func TestShuffleAnswer(t *testing.T) {
	v := of(t, 3, 9, nodes(4), nodes(25, 2, 7))
	tests := []struct {
		name    string
		l       []int
		answer  []int
		passive []int
		left    int
	}{
		{"none", nil, nil, nodes(2, 7, 25), 4},
		{"one", nodes(6), nodes(7), nodes(2, 6, 7, 25), 3},
		{"two", nodes(6, 5), nodes(7, 25), nodes(2, 5, 6, 7, 25), 2},
		{"all", nodes(6, 5, 3), nodes(7, 25, 2), nodes(2, 3, 5, 6, 7, 25), 2},
		{"more than all", nodes(6, 5, 3, 1), nodes(7, 25, 2), nodes(1, 2, 3, 5, 6, 7, 25), 2},
		{"the same ones", nodes(6, 6), nodes(7, 25), nodes(2, 6, 7, 25), 2},
		{"what is not known anew", nodes(4, 2, self), nodes(7, 25, 2), nodes(2, 7, 25), 2},
		{"what is no node", notNodes, nodes(7, 25, 2), nodes(2, 7, 25), 2},
	}
	for _, x := range tests {
		d := draw.New(1, 1, 1, 1)
		l := slices.Clone(x.l)
		got, sent := mix.OnShuffle(v, 3, shuffle(11, 0, l...), d)
		holds(t, x.name, got, nodes(4), x.passive)
		sends(t, x.name, sent, mixed(11, x.answer...))
		left(t, x.name, d, x.left)
		if !slices.Equal(l, x.l) {
			t.Error(x.name, "modified", l)
		}
	}
	d := draw.New(1, 1)
	got, sent := mix.OnShuffle(of(t, 3, 3, nil, nil), 3, shuffle(api.MaxNode, 0, 6, 5), d)
	holds(t, "nothing was known", got, nil, nodes(5, 6))
	sends(t, "nothing was known", sent, mixed(api.MaxNode))
	got, sent = mix.OnShuffle(of(t, 3, 0, nil, nil), 3, shuffle(1, 0, 6, 5), d)
	holds(t, "nothing can be known", got, nil, nil)
	sends(t, "nothing can be known", sent, mixed(1))
	left(t, "nothing was known", d, 2)
}

// TestShuffleNoAnswer: a sample of the node itself, or of no node, is only known.
func TestShuffleNoAnswer(t *testing.T) {
	for _, n := range append(nodes(self), notNodes...) {
		d := draw.New(1, 1)
		got, sent := mix.OnShuffle(of(t, 3, 9, nodes(4), nodes(2, 7)), 4, shuffle(n, 3, 6, 5), d)
		holds(t, "no answer", got, nodes(4), nodes(2, 5, 6, 7))
		sends(t, "no answer", sent)
		left(t, "no answer", d, 2)
	}
}

// TestShuffleFull: first the answer is drawn, then for each new node, in order, the one that it replaces.
func TestShuffleFull(t *testing.T) {
	v := of(t, 3, 3, nodes(4), nodes(25, 2, 7))
	d := draw.New(2, 0, 1, 0, 2, 9)
	got, sent := mix.OnShuffle(v, 3, shuffle(11, 0, 30, 4), d)
	holds(t, "one is replaced", got, nodes(4), nodes(2, 25, 30))
	sends(t, "one is replaced", sent, mixed(11, 25, 2))
	left(t, "one is replaced", d, 3)
	d = draw.New(2, 0, 0, 0, 2, 9)
	got, sent = mix.OnShuffle(v, 3, shuffle(11, 0, 30, 2, 3), d)
	// 25 2 7 are the answer; then 30 replaces 2 in 2 7 25, 2 replaces 7 in 7 25 30, and 3 replaces 30 in 2 25 30.
	holds(t, "three are replaced", got, nodes(4), nodes(2, 3, 25))
	sends(t, "three are replaced", sent, mixed(11, 25, 2, 7))
	left(t, "three are replaced", d, 1)
	holds(t, "before", v, nodes(4), nodes(2, 7, 25))
}

func TestOnMixed(t *testing.T) {
	v := of(t, 3, 5, nodes(4), nodes(25, 2))
	tests := []struct {
		name    string
		l       []int
		passive []int
	}{
		{"none", nil, nodes(2, 25)},
		{"some", nodes(6, 5), nodes(2, 5, 6, 25)},
		{"first and last node", nodes(api.MaxNode, 1), nodes(1, 2, 25, api.MaxNode)},
		{"the same ones", nodes(6, 6, 6), nodes(2, 6, 25)},
		{"what is not known anew", nodes(4, 2, self, 25), nodes(2, 25)},
		{"what is no node", notNodes, nodes(2, 25)},
		{"one among them", nodes(0, 4, 6, self, -1), nodes(2, 6, 25)},
	}
	for _, x := range tests {
		d := draw.New(1, 1)
		l := slices.Clone(x.l)
		m := message.Msg{Kind: message.Mixed, Nodes: l}
		holds(t, x.name, mix.OnMixed(v, m, d), nodes(4), x.passive)
		left(t, x.name, d, 2)
		if !slices.Equal(l, x.l) {
			t.Error(x.name, "modified", l)
		}
		holds(t, "before", v, nodes(4), nodes(2, 25))
	}
	holds(t, "nothing can be known", mix.OnMixed(of(t, 3, 0, nodes(4), nil), mixed(0, 5).Msg, nil), nodes(4), nil)
}

func TestOnMixedFull(t *testing.T) {
	v := of(t, 3, 3, nodes(4), nodes(25, 2, 7))
	d := draw.New(0, 0, 2, 9)
	// 30 replaces 2 in 2 7 25, 2 replaces 7 in 7 25 30, and 3 replaces 30 in 2 25 30.
	holds(t, "replaced", mix.OnMixed(v, mixed(0, 30, 2, 25, 3).Msg, d), nodes(4), nodes(2, 3, 25))
	left(t, "replaced", d, 1)
	all := mix.OnMixed(v, mixed(0, upTo(101, 164)...).Msg, nil)
	holds(t, "many", all, nodes(4), nodes(162, 163, 164))
}
