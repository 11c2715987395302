package overlay_test

import (
	"math"
	"slices"
	"testing"

	"bellhop/api"
	"bellhop/draw"
	"bellhop/hand"
	"bellhop/message"
	"bellhop/mix"
	"bellhop/overlay"
)

const self = 9

// notNodes are numbers that are no nodes.
var notNodes = []int{0, -1, -7, math.MinInt, api.MaxNode + 1, 2*api.MaxNode + 2, math.MaxInt}

// nodes is a short form of a list of nodes.
func nodes(l ...int) []int {
	return l
}

// upTo returns the numbers from one to another one.
func upTo(first, last int) []int {
	var l []int
	for n := first; n <= last; n++ {
		l = append(l, n)
	}
	return l
}

// config returns one in which all values differ, and shuffles are rare.
func config(seeds ...int) overlay.Config {
	return overlay.Config{Active: 3, Passive: 4, Far: 6, Near: 5, MixActive: 2, MixPass: 1, Every: 1000, Seeds: seeds}
}

// made returns the overlay of self.
func made(t *testing.T, c overlay.Config) *overlay.Overlay {
	t.Helper()
	o, e := overlay.New(self, c)
	if e != api.OK || o == nil {
		t.Fatal(c, e)
	}
	return o
}

// of returns an overlay with these nodes: they ask, and come in a sample.
func of(t *testing.T, c overlay.Config, active, passive []int) *overlay.Overlay {
	t.Helper()
	o := made(t, c)
	for _, n := range active {
		o.Take(n, plain(message.Ask), nil)
	}
	o.Take(1, message.Msg{Kind: message.Mixed, Nodes: passive}, nil)
	holds(t, "made", o, slices.Sorted(slices.Values(active)), slices.Sorted(slices.Values(passive)))
	return o
}

// holds checks Self, the nodes of the view, and that it keeps its rules.
func holds(t *testing.T, name string, o *overlay.Overlay, active, passive []int) {
	t.Helper()
	v := o.View()
	if v.Self != self {
		t.Errorf("%s: self is %d", name, v.Self)
	}
	if got := v.Active.All(); !slices.Equal(got, active) {
		t.Errorf("%s: active %v, want %v", name, got, active)
	}
	if got := v.Passive.All(); !slices.Equal(got, passive) {
		t.Errorf("%s: passive %v, want %v", name, got, passive)
	}
	if !v.Sane() {
		t.Errorf("%s: not sane", name)
	}
}

// asked checks whether an answer of n is awaited: if not, its Yes is refused by a Bye. It changes the overlay.
func asked(t *testing.T, name string, o *overlay.Overlay, n int, want bool) {
	t.Helper()
	sent := o.Take(n, plain(message.Yes), nil)
	if got := len(sent) == 0 || sent[len(sent)-1].To != n; got != want {
		t.Errorf("%s: asked %v, want %v", name, got, want)
	}
}

// plain returns a message without other fields.
func plain(kind int) message.Msg {
	return message.Msg{Kind: kind}
}

// to is a short form of a message to a node.
func to(n int, m message.Msg) hand.Out {
	return hand.Out{To: n, Msg: m}
}

func ask(n int, high bool) hand.Out {
	return to(n, message.Msg{Kind: message.Ask, High: high})
}

// forward returns the message of a walk that carries node.
func forward(node, walk int) message.Msg {
	return message.Msg{Kind: message.Forward, Node: node, Walk: walk}
}

// shuffle returns the message with a sample.
func shuffle(node, walk int, l ...int) message.Msg {
	return message.Msg{Kind: message.Shuffle, Node: node, Walk: walk, Nodes: l}
}

// same reports whether the same messages are sent to the same nodes.
func same(a, b []hand.Out) bool {
	return slices.EqualFunc(a, b, func(x, y hand.Out) bool { return x.To == y.To && message.Same(x.Msg, y.Msg) })
}

// sends checks which messages are sent, with all their fields.
func sends(t *testing.T, name string, got []hand.Out, want ...hand.Out) {
	t.Helper()
	if !same(got, want) {
		t.Errorf("%s: sent %+v, want %+v", name, got, want)
	}
}

// left checks how many numbers of a draw have not been consumed.
func left(t *testing.T, name string, d *draw.Draw, want int) {
	t.Helper()
	if d.Left() != want {
		t.Errorf("%s: %d numbers left, want %d", name, d.Left(), want)
	}
}

func TestExample(t *testing.T) {
	o, e := overlay.New(1, config(2))
	if e != api.OK {
		t.Fatal(e)
	}
	sends(t, "first tick", o.Tick(nil), to(2, plain(message.Join)))
}

// TestGood: each value at its limits and beyond them, while all others are right.
func TestGood(t *testing.T) {
	fields := []struct {
		name        string
		of          func(c *overlay.Config) *int
		least, most int
	}{
		{"Active", func(c *overlay.Config) *int { return &c.Active }, 2, 64},
		{"Passive", func(c *overlay.Config) *int { return &c.Passive }, 1, 64},
		{"Far", func(c *overlay.Config) *int { return &c.Far }, 0, 15},
		{"Near", func(c *overlay.Config) *int { return &c.Near }, 0, 15},
		{"MixActive", func(c *overlay.Config) *int { return &c.MixActive }, 0, 64},
		{"MixPass", func(c *overlay.Config) *int { return &c.MixPass }, 0, 64},
		{"Every", func(c *overlay.Config) *int { return &c.Every }, 1, 1000},
	}
	for _, f := range fields {
		for n, want := range map[int]bool{
			math.MinInt: false, -7: false, f.least - 1: false, f.least: true, f.least + 1: true,
			f.most - 1: true, f.most: true, f.most + 1: false, 1<<32 + f.least: false, math.MaxInt: false,
		} {
			c := config(2, 3)
			*f.of(&c) = n
			good(t, c, want)
		}
	}
}

func TestGoodSeeds(t *testing.T) {
	good(t, config(), true)
	good(t, config(1), true)
	good(t, config(api.MaxNode, 1, 2), true)
	good(t, config(2, 2, 2), true)
	good(t, config(self, self), true)
	good(t, config(upTo(1, 64)...), true)
	good(t, config(upTo(api.MaxNode-63, api.MaxNode)...), true)
	good(t, config(upTo(1, 65)...), false)
	good(t, config(upTo(1, 1000)...), false)
	good(t, config(append(upTo(1, 64), 1)...), false)
	for _, n := range notNodes {
		good(t, config(n), false)
		good(t, config(1, n), false)
		good(t, config(n, 1), false)
		good(t, config(1, 2, n, 3), false)
		good(t, config(append(upTo(1, 63), n)...), false)
	}
	good(t, overlay.Config{}, false)
}

// good checks what Good reports, and that New agrees.
func good(t *testing.T, c overlay.Config, want bool) {
	t.Helper()
	if c.Good() != want {
		t.Errorf("%+v: good is %v", c, !want)
	}
	o, e := overlay.New(self, c)
	if want && (o == nil || e != api.OK) || !want && (o != nil || e != api.ErrArg) {
		t.Errorf("%+v: new %v %v", c, o, e)
	}
}

func TestNew(t *testing.T) {
	holds(t, "new", made(t, config(2, 3)), nil, nil)
	for _, n := range nodes(1, 2, api.MaxNode) {
		o, e := overlay.New(n, config(2))
		if e != api.OK || o.View().Self != n || o.View().Active.Len()+o.View().Passive.Len() != 0 {
			t.Error(n, e)
		}
	}
	for _, n := range notNodes {
		if o, e := overlay.New(n, config(2)); o != nil || e != api.ErrArg {
			t.Error(n, e)
		}
		if o, e := overlay.New(n, overlay.Config{}); o != nil || e != api.ErrArg {
			t.Error(n, e)
		}
	}
}

// TestNewCapacities: those of the view are the config's.
func TestNewCapacities(t *testing.T) {
	for _, x := range []struct{ active, passive int }{{2, 1}, {3, 4}, {64, 64}, {2, 64}, {64, 1}} {
		c := config()
		c.Active, c.Passive = x.active, x.passive
		o := made(t, c)
		for n := 101; n <= 170; n++ {
			o.Take(n, plain(message.Ask), nil)
			o.Take(1, message.Msg{Kind: message.Mixed, Nodes: nodes(n + 100)}, nil)
		}
		holds(t, "full", o, upTo(101, 100+x.active), upTo(271-x.passive, 270))
	}
}

// TestNewSeeds: the list of seeds is neither kept nor changed.
func TestNewSeeds(t *testing.T) {
	seeds := nodes(self, 2, self, 3, 4, 5)[:4]
	o := made(t, config(seeds...))
	if !slices.Equal(seeds[:6], nodes(self, 2, self, 3, 4, 5)) {
		t.Error("changed", seeds[:6])
	}
	for i := range seeds {
		seeds[i] = 77
	}
	sends(t, "seed", o.Tick(nil), to(2, plain(message.Join)))
}

func TestNil(t *testing.T) {
	var o *overlay.Overlay
	d := draw.New(1, 2)
	sends(t, "tick", o.Tick(d))
	for kind := range message.Delta + 2 {
		sends(t, "take", o.Take(2, message.Msg{Kind: kind, Node: 3, Nodes: nodes(4)}, d))
	}
	o.Broke(2)
	if v := o.View(); v.Self != 0 || v.Active.Len() != 0 || v.Passive.Len() != 0 || !v.Active.Full() || !v.Passive.Full() {
		t.Error(v)
	}
	left(t, "nil", d, 2)
}

// TestBroke: the node is no longer active, passive or asked.
func TestBroke(t *testing.T) {
	o := of(t, config(), nodes(2, 3), nodes(4, 5))
	for _, n := range append(nodes(6, self), notNodes...) {
		o.Broke(n)
		holds(t, "another", o, nodes(2, 3), nodes(4, 5))
	}
	o.Broke(2)
	holds(t, "active", o, nodes(3), nodes(4, 5))
	o.Broke(5)
	holds(t, "passive", o, nodes(3), nodes(4))
	sends(t, "asks", o.Tick(nil), ask(4, false))
	o.Broke(4)
	holds(t, "asked", o, nodes(3), nil)
	asked(t, "asked", o, 4, false)
}

// TestTickSeeds: without any other node, the seeds other than self are asked by a Join, in turn.
func TestTickSeeds(t *testing.T) {
	o := made(t, config(4, self, 2, 3, 3, 2, self))
	d := draw.New(1, 2)
	for _, n := range nodes(4, 2, 3, 3, 2, 4, 2, 3, 3, 2, 4) {
		sends(t, "seed", o.Tick(d), to(n, plain(message.Join)))
		sends(t, "awaits its answer", o.Tick(d))
		sends(t, "no", o.Take(n, plain(message.No), nil))
		holds(t, "no", o, nil, nil)
	}
	left(t, "seeds", d, 2)
	sends(t, "next", o.Tick(d), to(2, plain(message.Join)))
	o.Broke(2)
	sends(t, "after a break", o.Tick(d), to(3, plain(message.Join)))
	sends(t, "yes", o.Take(3, plain(message.Yes), nil))
	holds(t, "yes", o, nodes(3), nil)
	sends(t, "not alone", o.Tick(d))
	o.Broke(3)
	sends(t, "alone again", o.Tick(d), to(3, plain(message.Join)))
}

// TestTickSeedsNone: no seeds, or none other than self.
func TestTickSeedsNone(t *testing.T) {
	for _, seeds := range [][]int{nil, {self}, {self, self, self}} {
		o := made(t, config(seeds...))
		for range 3 {
			sends(t, "no seeds", o.Tick(draw.New(1)))
		}
		o.Take(1, message.Msg{Kind: message.Mixed, Nodes: nodes(5)}, nil)
		sends(t, "passive", o.Tick(nil), ask(5, true))
	}
}

// TestTickOneSeed: the only seed is asked again and again.
func TestTickOneSeed(t *testing.T) {
	o := made(t, config(self, api.MaxNode))
	for range 4 {
		sends(t, "seed", o.Tick(nil), to(api.MaxNode, plain(message.Join)))
		o.Take(api.MaxNode, plain(message.No), nil)
	}
}

// TestTickPassive: a drawn passive node is asked rather than a seed, with High if no node is active.
func TestTickPassive(t *testing.T) {
	tests := []struct {
		name            string
		active, passive []int
		l               []uint32
		want            hand.Out
		left            int
	}{
		{"alone", nil, nodes(7, 3, 5), []uint32{1, 1}, ask(5, true), 1},
		{"alone, another", nil, nodes(7, 3, 5), []uint32{5, 1}, ask(7, true), 1},
		{"alone, no draw", nil, nodes(7, 3, 5), nil, ask(3, true), 0},
		{"alone, only one", nil, nodes(7), []uint32{1, 1}, ask(7, true), 2},
		{"one is active", nodes(8), nodes(7, 3, 5), []uint32{2, 1}, ask(7, false), 1},
		{"two are active", nodes(8, 30), nodes(25, 7, 3, 5), []uint32{6, 1}, ask(7, false), 1},
		{"active, only one", nodes(8, 30), nodes(3), []uint32{6, 1}, ask(3, false), 2},
	}
	for _, x := range tests {
		o := of(t, config(4), x.active, x.passive)
		d := draw.New(x.l...)
		sends(t, x.name, o.Tick(d), x.want)
		left(t, x.name, d, x.left)
		holds(t, x.name, o, slices.Sorted(slices.Values(x.active)), slices.Sorted(slices.Values(x.passive)))
		d = draw.New(1, 1)
		sends(t, x.name+" awaits", o.Tick(d))
		left(t, x.name+" awaits", d, 2)
		asked(t, x.name, o, x.want.To, true)
		if !o.View().Active.Has(x.want.To) || o.View().Passive.Has(x.want.To) {
			t.Error(x.name, "not active")
		}
	}
}

// TestTickSeedsLater: whom a seed's turn is does not change while others are asked.
func TestTickSeedsLater(t *testing.T) {
	o := of(t, config(4, 5, 6), nil, nodes(7))
	sends(t, "passive", o.Tick(nil), ask(7, true))
	o.Broke(7)
	sends(t, "first", o.Tick(nil), to(4, plain(message.Join)))
	o.Take(1, message.Msg{Kind: message.Mixed, Nodes: nodes(8)}, nil)
	o.Take(4, plain(message.No), nil)
	sends(t, "passive again", o.Tick(nil), ask(8, true))
	o.Broke(8)
	sends(t, "second", o.Tick(nil), to(5, plain(message.Join)))
}

// TestTickNothing: there is nothing to ask for, no one to ask, or an answer is awaited.
func TestTickNothing(t *testing.T) {
	d := draw.New(1, 1, 1)
	o := of(t, config(4), nodes(2, 3, 5), nodes(6, 7))
	sends(t, "no room", o.Tick(d))
	o = of(t, config(4), nodes(2), nil)
	sends(t, "one is active, none is passive", o.Tick(d))
	o = of(t, config(4), nil, nodes(6, 7))
	sends(t, "asks", o.Take(2, forward(3, 0), nil), ask(3, false))
	sends(t, "another is asked", o.Tick(d))
	left(t, "nothing", d, 3)
	o.Take(3, plain(message.No), nil)
	sends(t, "no longer", o.Tick(d), ask(7, true))
	o.Take(2, plain(message.Ask), nil)
	sends(t, "still awaits", o.Tick(d))
	left(t, "after", d, 2)
}

// TestTickRoom: as soon as there is room again, a passive node is asked.
func TestTickRoom(t *testing.T) {
	o := of(t, config(4), nodes(2, 3, 5), nodes(6))
	o.Take(3, plain(message.Bye), nil)
	holds(t, "bye", o, nodes(2, 5), nodes(3, 6))
	sends(t, "room", o.Tick(nil), ask(3, false))
}

// TestTickShuffle: at every Every-th tick a walk starts, after the Ask and with the choices that this left.
func TestTickShuffle(t *testing.T) {
	for _, every := range []int{1, 2, 3, 7, 1000} {
		c := config()
		c.Every = every
		o := of(t, c, nodes(30, 4, 8), nodes(25, 5, 7, 6))
		for tick := 1; tick <= 3*every; tick++ {
			d := draw.New(1, 2, 0, 3, 7)
			if tick%every > 0 {
				sends(t, "between", o.Tick(d))
				left(t, "between", d, 5)
				continue
			}
			sends(t, "every", o.Tick(d), to(8, shuffle(self, 6, self, 30, 4, 25)))
			left(t, "every", d, 1)
		}
		holds(t, "after", o, nodes(4, 8, 30), nodes(5, 6, 7, 25))
	}
}

// TestTickShuffleAsk: both at the same tick.
func TestTickShuffleAsk(t *testing.T) {
	c := config(2)
	c.Every, c.Far, c.MixActive, c.MixPass = 2, 15, 1, 2
	o := of(t, c, nodes(30, 4), nodes(25, 5, 7))
	sends(t, "first", o.Tick(draw.New(1)), ask(7, false))
	o.Take(7, plain(message.No), nil)
	d := draw.New(2, 1, 0, 1, 1, 7)
	sends(t, "second", o.Tick(d), ask(25, false), to(30, shuffle(self, 15, self, 4, 7, 25)))
	left(t, "second", d, 1)
	sends(t, "third", o.Tick(nil))
	sends(t, "fourth", o.Tick(nil), to(4, shuffle(self, 15, self, 4, 5, 7)))
}

// TestTickShuffleLate: ticks count even if nothing can be sent then, and messages do not count.
func TestTickShuffleLate(t *testing.T) {
	c := config(2)
	c.Every, c.Far = 3, 0
	o := made(t, c)
	sends(t, "first", o.Tick(nil), to(2, plain(message.Join)))
	sends(t, "second", o.Tick(nil))
	sends(t, "third, alone", o.Tick(nil))
	o.Take(2, plain(message.Yes), nil)
	o.Take(3, plain(message.Join), nil)
	sends(t, "fourth", o.Tick(nil))
	o.Broke(2)
	o.Broke(3)
	sends(t, "fifth, alone again", o.Tick(nil), to(2, plain(message.Join)))
	o.Take(3, plain(message.Ask), nil)
	o.Take(2, plain(message.Yes), nil)
	sends(t, "sixth", o.Tick(nil), to(2, shuffle(self, 0, self, 2, 3)))
}

// TestTakeHand: Ask, Yes, No and Bye, as in layer 11.
func TestTakeHand(t *testing.T) {
	o := made(t, config())
	sends(t, "ask", o.Take(2, plain(message.Ask), nil), to(2, plain(message.Yes)))
	sends(t, "high ask", o.Take(3, message.Msg{Kind: message.Ask, High: true}, nil), to(3, plain(message.Yes)))
	sends(t, "ask of self", o.Take(self, plain(message.Ask), nil), to(self, plain(message.No)))
	sends(t, "ask of no node", o.Take(0, plain(message.Ask), nil), to(0, plain(message.No)))
	sends(t, "last", o.Take(4, plain(message.Ask), nil), to(4, plain(message.Yes)))
	holds(t, "full", o, nodes(2, 3, 4), nil)
	d := draw.New(2, 1)
	sends(t, "no room", o.Take(5, plain(message.Ask), d), to(5, plain(message.No)))
	left(t, "no room", d, 2)
	sends(t, "high", o.Take(5, message.Msg{Kind: message.Ask, High: true}, d), to(4, plain(message.Bye)), to(5, plain(message.Yes)))
	left(t, "high", d, 1)
	holds(t, "high", o, nodes(2, 3, 5), nodes(4))
	sends(t, "again", o.Take(5, plain(message.Ask), nil), to(5, plain(message.Yes)))
	sends(t, "yes of an active one", o.Take(5, plain(message.Yes), nil))
	sends(t, "yes of another one", o.Take(7, plain(message.Yes), nil), to(7, plain(message.Bye)))
	sends(t, "no of another one", o.Take(7, plain(message.No), nil))
	sends(t, "no of an active one", o.Take(5, plain(message.No), nil), to(5, plain(message.Bye)))
	holds(t, "no", o, nodes(2, 3), nodes(4, 5))
	sends(t, "bye", o.Take(2, plain(message.Bye), nil))
	sends(t, "bye of another one", o.Take(7, plain(message.Bye), nil))
	holds(t, "bye", o, nodes(3), nodes(2, 4, 5))
}

// TestTakeYesFull: an answer that was awaited makes room.
func TestTakeYesFull(t *testing.T) {
	o := made(t, config())
	sends(t, "asks", o.Take(1, forward(7, 0), nil), ask(7, false))
	for _, n := range nodes(2, 3, 4) {
		o.Take(n, plain(message.Ask), nil)
	}
	d := draw.New(1, 1)
	sends(t, "yes", o.Take(7, plain(message.Yes), d), to(3, plain(message.Bye)))
	left(t, "yes", d, 1)
	holds(t, "yes", o, nodes(2, 4, 7), nodes(3))
}

// TestTakeDraws: what becomes known replaces a drawn passive node.
func TestTakeDraws(t *testing.T) {
	for _, kind := range nodes(message.No, message.Bye) {
		c := config()
		c.Passive = 3
		o := of(t, c, nodes(2, 3), nodes(5, 6, 7))
		d := draw.New(1, 1)
		o.Take(2, plain(kind), d)
		holds(t, "left", o, nodes(3), nodes(2, 5, 7))
		left(t, "left", d, 1)
	}
}

// TestTakeJoin: the new node is active, and a walk with it starts at each other one.
func TestTakeJoin(t *testing.T) {
	yes := to(7, plain(message.Yes))
	tests := []struct {
		name            string
		active          []int
		want            []hand.Out
		after, passives []int
		left            int
	}{
		{"first", nil, []hand.Out{yes}, nodes(7), nil, 2},
		{"second", nodes(20), []hand.Out{yes, to(20, forward(7, 6))}, nodes(7, 20), nil, 2},
		{"third", nodes(20, 4), []hand.Out{yes, to(4, forward(7, 6)), to(20, forward(7, 6))}, nodes(4, 7, 20), nil, 2},
		{
			"no room", nodes(20, 4, 8),
			[]hand.Out{to(8, plain(message.Bye)), yes, to(4, forward(7, 6)), to(20, forward(7, 6))}, nodes(4, 7, 20), nodes(8), 1,
		},
		{"active already", nodes(20, 7, 8), []hand.Out{yes, to(8, forward(7, 6)), to(20, forward(7, 6))}, nodes(7, 8, 20), nil, 2},
		{"only that one", nodes(7), []hand.Out{yes}, nodes(7), nil, 2},
	}
	for _, x := range tests {
		o := of(t, config(), x.active, nil)
		d := draw.New(1, 1)
		m := message.Msg{Kind: message.Join, Node: 3, Walk: 2, Nodes: nodes(5)} // other fields do not matter
		sends(t, x.name, o.Take(7, m, d), x.want...)
		holds(t, x.name, o, x.after, x.passives)
		left(t, x.name, d, x.left)
	}
}

func TestTakeJoinFar(t *testing.T) {
	for _, far := range nodes(0, 1, 15) {
		c := config()
		c.Far, c.Near = far, 3
		o := of(t, c, nodes(4), nodes(7))
		sends(t, "join", o.Take(7, plain(message.Join), nil), to(7, plain(message.Yes)), to(4, forward(7, far)))
		holds(t, "join", o, nodes(4, 7), nil)
	}
}

// TestTakeJoinRefused: who cannot be active starts no walk.
func TestTakeJoinRefused(t *testing.T) {
	o := of(t, config(), nodes(4, 5, 6), nodes(7))
	d := draw.New(1, 1)
	for _, n := range append(nodes(self), notNodes...) {
		sends(t, "refused", o.Take(n, plain(message.Join), d), to(n, plain(message.No)))
		holds(t, "refused", o, nodes(4, 5, 6), nodes(7))
	}
	left(t, "refused", d, 2)
}

// TestForwardEnds: the node is asked, without High.
func TestForwardEnds(t *testing.T) {
	tests := []struct {
		name             string
		active           []int
		from, node, walk int
	}{
		{"no steps", nodes(20, 4, 8), 4, 7, 0},
		{"less than no steps", nodes(20, 4, 8), 4, 7, -1},
		{"least", nodes(20, 4, 8), 4, 7, math.MinInt},
		{"none is active", nil, 4, 7, 5},
		{"only from is active", nodes(4), 4, 7, 5},
		{"only another one is active", nodes(8), 4, 7, 5},
		{"most steps", nodes(8), 4, 7, 15},
		{"first node", nodes(8), 4, 1, 2},
		{"last node", nodes(8), 4, api.MaxNode, 2},
		{"from is the node", nodes(8), 4, 4, 2},
	}
	for _, x := range tests {
		o := of(t, config(), x.active, nodes(5, 6))
		d := draw.New(1, 1)
		m := forward(x.node, x.walk)
		m.High, m.Nodes = true, nodes(3)
		sends(t, x.name, o.Take(x.from, m, d), ask(x.node, false))
		holds(t, x.name, o, slices.Sorted(slices.Values(x.active)), nodes(5, 6))
		sends(t, x.name+" again", o.Take(x.from, m, d))
		left(t, x.name, d, 2)
		asked(t, x.name, o, x.node, true)
	}
}

// TestForwardEndsThere: it ends with two active nodes, too, and without an Ask to an active one.
func TestForwardEndsThere(t *testing.T) {
	o := of(t, config(), nodes(4, 8), nodes(5))
	d := draw.New(1, 1)
	sends(t, "only from and the node", o.Take(4, forward(8, 5), d))
	sends(t, "only the node and from", o.Take(8, forward(4, 5), d))
	for _, walk := range nodes(0, -1) {
		for _, n := range append(nodes(self, 4, 8), notNodes...) {
			sends(t, "whom a hand does not ask", o.Take(4, forward(n, walk), d))
		}
	}
	holds(t, "after", o, nodes(4, 8), nodes(5))
	sends(t, "none was asked", o.Tick(nil), ask(5, false))
	left(t, "after", d, 2)
}

// TestForwardEndsPassive: a passive node is asked, and stays passive until it answers.
func TestForwardEndsPassive(t *testing.T) {
	o := of(t, config(), nodes(4), nodes(5))
	sends(t, "passive", o.Take(4, forward(5, 0), nil), ask(5, false))
	holds(t, "passive", o, nodes(4), nodes(5))
}

// TestForwardContinues: to a drawn active node other than from and the node, with a Walk that is one less.
func TestForwardContinues(t *testing.T) {
	tests := []struct {
		name       string
		from, node int
		next       []int
	}{
		{"neither is active", 1, 7, nodes(4, 8, 20)},
		{"from is active", 8, 7, nodes(4, 20)},
		{"the node is active", 1, 20, nodes(4, 8)},
		{"both are active", 4, 8, nodes(20)},
		{"both are the same", 8, 8, nodes(4, 20)},
		{"the node is self", 4, self, nodes(8, 20)},
		{"not a node", 4, 0, nodes(8, 20)},
		{"neither a node", -1, api.MaxNode + 1, nodes(4, 8, 20)},
	}
	for _, x := range tests {
		for _, walk := range nodes(1, 2, 3, 4, 6, 7, 14, 15) { // not 5, which is Near
			o := of(t, config(), nodes(20, 4, 8), nodes(5, 6))
			for i := range 2 * len(x.next) {
				d := draw.New(uint32(i), 1, 1)
				next := x.next[i%len(x.next)]
				sends(t, x.name, o.Take(x.from, forward(x.node, walk), d), to(next, forward(x.node, walk-1)))
				left(t, x.name, d, 3-min(1, len(x.next)-1))
				holds(t, x.name, o, nodes(4, 8, 20), nodes(5, 6))
			}
		}
	}
}

// TestForwardContinuesWhole: all other fields stay as they are, and the lists are new ones.
func TestForwardContinuesWhole(t *testing.T) {
	whole := func(walk int) message.Msg {
		return message.Msg{
			Kind: message.Forward, Node: 7, Walk: walk, High: true, Nodes: nodes(3, 6),
			Ids:  []message.Id{{Key: "a", Ver: 1}, {Key: "b", Ver: 2}},
			Recs: []message.Rec{{Id: message.Id{Key: "c", Ver: 3}, Origin: 4, Age: 5, Gone: true, Data: "d"}},
		}
	}
	o := of(t, config(), nodes(4, 8), nil)
	m := whole(5)
	sent := o.Take(4, m, nil)
	sends(t, "whole", sent, to(8, whole(4)))
	if !message.Same(m, whole(5)) {
		t.Error("modified", m)
	}
	m.Nodes[0], m.Ids[1].Key, m.Recs[0].Data = 77, "x", "y"
	sends(t, "kept", sent, to(8, whole(4)))
	holds(t, "whole", o, nodes(4, 8), nodes(7))
}

// TestForwardKnows: where Near steps are left, and the walk continues, the node becomes known.
func TestForwardKnows(t *testing.T) {
	for _, near := range nodes(1, 2, 5, 15) {
		for walk := range 16 {
			c := config()
			c.Near = near
			o := of(t, c, nodes(4, 8), nodes(5))
			o.Take(4, forward(7, walk), nil)
			want := nodes(5)
			if walk == near {
				want = nodes(5, 7)
			}
			holds(t, "near", o, nodes(4, 8), want)
		}
	}
	c := config()
	c.Near = 0
	o := of(t, c, nodes(4, 8), nodes(5))
	sends(t, "near the end", o.Take(4, forward(7, 0), nil), ask(7, false))
	holds(t, "near the end", o, nodes(4, 8), nodes(5))
	o = of(t, config(), nodes(4), nodes(5))
	sends(t, "near, but ends", o.Take(4, forward(7, 5), nil), ask(7, false))
	holds(t, "near, but ends", o, nodes(4), nodes(5))
}

// TestForwardKnowsFull: the next node is drawn first, then the passive one that is replaced.
func TestForwardKnowsFull(t *testing.T) {
	o := of(t, config(), nodes(20, 4, 8), nodes(5, 6, 11, 12))
	d := draw.New(0, 2, 1)
	sends(t, "full", o.Take(4, forward(7, 5), d), to(8, forward(7, 4)))
	left(t, "full", d, 1)
	holds(t, "full", o, nodes(4, 8, 20), nodes(5, 6, 7, 12))
	for _, n := range append(nodes(self, 8, 7, 12), notNodes...) {
		d = draw.New(1, 2, 1)
		sends(t, "not known anew", o.Take(8, forward(n, 5), d), to(20, forward(n, 4)))
		left(t, "not known anew", d, 2)
		holds(t, "not known anew", o, nodes(4, 8, 20), nodes(5, 6, 7, 12))
	}
}

// TestTakeShuffle: it is sent on with a Walk that is one less, or answered, and then its nodes become known.
func TestTakeShuffle(t *testing.T) {
	o := of(t, config(), nodes(20, 4, 8), nodes(5, 6))
	d := draw.New(1, 1)
	sends(t, "on", o.Take(4, shuffle(7, 3, 7, 30), d), to(20, shuffle(7, 2, 7, 30)))
	holds(t, "on", o, nodes(4, 8, 20), nodes(5, 6))
	left(t, "on", d, 1)
	sends(t, "ends", o.Take(4, shuffle(7, 0, 7), d), to(7, message.Msg{Kind: message.Mixed, Nodes: nodes(6)}))
	holds(t, "ends", o, nodes(4, 8, 20), nodes(5, 6, 7))
	left(t, "ends", d, 0)
	sends(t, "own", o.Take(4, shuffle(self, 0, 12, self, 4), nil))
	holds(t, "own", o, nodes(4, 8, 20), nodes(5, 6, 7, 12))
	d = draw.New(3, 1, 2, 1)
	sends(t, "full", o.Take(4, shuffle(4, 0, 30, 31), d), to(4, message.Msg{Kind: message.Mixed, Nodes: nodes(12, 6)}))
	// 30 replaces 7 in 5 6 7 12, and 31 replaces 6 in 5 6 12 30.
	holds(t, "full", o, nodes(4, 8, 20), nodes(5, 12, 30, 31))
	left(t, "full", d, 0)
}

func TestTakeMixed(t *testing.T) {
	o := of(t, config(), nodes(4), nil)
	d := draw.New(1, 1)
	m := message.Msg{Kind: message.Mixed, Nodes: nodes(30, 4, self, 0, 7, 30, 5)}
	sends(t, "mixed", o.Take(2, m, d))
	holds(t, "mixed", o, nodes(4), nodes(5, 7, 30))
	sends(t, "full", o.Take(2, message.Msg{Kind: message.Mixed, Nodes: nodes(6, 8)}, d))
	// 6 finds room, and 8 replaces it in 5 6 7 30.
	holds(t, "full", o, nodes(4), nodes(5, 7, 8, 30))
	left(t, "full", d, 1)
}

// TestTakeOther: kinds of other layers, and what is no kind, have no effect.
func TestTakeOther(t *testing.T) {
	o := of(t, config(), nodes(4, 8), nodes(5, 6))
	d := draw.New(1, 1)
	kinds := nodes(0, -1, math.MinInt, math.MaxInt, 15, 100, 1<<32+1)
	for _, kind := range append(kinds, upTo(message.Gossip, message.Delta)...) {
		m := message.Msg{Kind: kind, Node: 7, Walk: 5, High: true, Nodes: nodes(7, 30)}
		for _, from := range nodes(4, 5, 7, self, 0) {
			sends(t, "other", o.Take(from, m, d))
			holds(t, "other", o, nodes(4, 8), nodes(5, 6))
		}
	}
	left(t, "other", d, 2)
	sends(t, "none was asked", o.Tick(nil), ask(5, false))
}

// TestLayers: what is sent, known and drawn for samples is what layer 12 says.
func TestLayers(t *testing.T) {
	c := config()
	c.Every, c.MixActive, c.MixPass = 1, 3, 2
	for i := range uint32(50) {
		o := of(t, c, nodes(20, 4, 8), nodes(5, 6, 11))
		a, b := draw.New(i, i/3, i/5, i/2, 4, 2, 3), draw.New(i, i/3, i/5, i/2, 4, 2, 3)
		want := mix.Start(o.View(), mix.Sizes{Active: 3, Passive: 2}, 6, b)
		sends(t, "start", o.Tick(a), want...)
		left(t, "start", a, b.Left())
		m := shuffle(int(i)%13, int(i)%3, 40, 41)
		v, want := mix.OnShuffle(o.View(), 4, m, b)
		sends(t, "shuffle", o.Take(4, m, a), want...)
		holds(t, "shuffle", o, v.Active.All(), v.Passive.All())
		left(t, "shuffle", a, b.Left())
	}
}
