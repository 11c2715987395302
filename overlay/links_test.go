package overlay_test

import (
	"testing"

	"bellhop/api"
	"bellhop/draw"
	"bellhop/hand"
	"bellhop/mesh"
	"bellhop/message"
	"bellhop/overlay"
)

const size = 6 // nodes of a net, from 1 on

// net of overlays that exchange encoded messages on links.
type net struct {
	t        *testing.T
	config   overlay.Config
	overlays [size + 1]*overlay.Overlay
	links    *mesh.Mesh
	random   uint32
}

func newNet(t *testing.T, c overlay.Config, random uint32) *net {
	x := &net{t: t, config: c, links: mesh.New(), random: random}
	for n := 1; n <= size; n++ {
		x.start(n)
	}
	return x
}

// start a node anew.
func (x *net) start(n int) {
	o, e := overlay.New(n, x.config)
	if e != api.OK {
		x.t.Fatal(e)
	}
	x.overlays[n] = o
	x.links.Up(n)
}

// next returns a number below n.
func (x *net) next(n int) int {
	x.random = x.random*1664525 + 1013904223
	return int(x.random>>16) % n
}

// draw returns a few numbers.
func (x *net) draw() *draw.Draw {
	var l []uint32
	for range x.next(8) {
		l = append(l, uint32(x.next(1000)))
	}
	return draw.New(l...)
}

func (x *net) send(from int, l []hand.Out) {
	for _, o := range l {
		s, e := message.Encode(o.Msg)
		if e != api.OK {
			x.t.Fatalf("%d sent %+v: %v", from, o, e)
		}
		x.links.Send(from, o.To, s)
	}
}

// deliver the first item of a link, if there is one.
func (x *net) deliver(from, to int) {
	item, found := x.links.Take(from, to)
	if !found {
		return
	}
	if item.Broken {
		x.overlays[to].Broke(from)
		return
	}
	m, e := message.Decode(item.Text)
	if e != api.OK {
		x.t.Fatal(e)
	}
	x.send(to, x.overlays[to].Take(from, m, x.draw()))
}

// inject a message of any kind that an overlay knows, as if from had sent it.
func (x *net) inject(from, to int) {
	// No Yes and no No: they are answers, without which the handshake is not that of layer 11.
	kinds := nodes(message.Forward, message.Shuffle, message.Mixed, message.Join, message.Ask)
	m := message.Msg{Kind: kinds[x.next(len(kinds))], Node: x.next(size + 1), Walk: x.next(api.MaxWalk + 1), High: x.next(2) == 0}
	for range x.next(4) {
		m.Nodes = append(m.Nodes, x.next(size)+1)
	}
	x.send(from, []hand.Out{{To: to, Msg: m}})
}

// step does one of the things that may happen in a net.
func (x *net) step() {
	a, b := x.next(size)+1, x.next(size)+1
	live := x.links.Live(a)
	switch n := x.next(200); {
	case n == 0:
		x.links.Break(a, b)
	case n == 1 && live:
		x.links.Down(a)
	case n < 20 && !live:
		x.start(a)
	case n < 50 && live:
		x.send(a, x.overlays[a].Tick(x.draw()))
	default:
		x.deliver(a, b)
	}
}

// round delivers what is in transit, and then every live node ticks.
func (x *net) round() {
	for _, w := range x.links.Ways() {
		for range x.links.Len(w[0], w[1]) {
			x.deliver(w[0], w[1])
		}
	}
	for _, n := range x.links.Nodes() {
		x.send(n, x.overlays[n].Tick(x.draw()))
	}
}

// check the views (P13.4), and that who is active on one side only has an item in transit (P11.5).
func (x *net) check(when int) {
	x.t.Helper()
	for _, a := range x.links.Nodes() {
		v := x.overlays[a].View()
		if v.Self != a || !v.Sane() || v.Active.Len() > x.config.Active || v.Passive.Len() > x.config.Passive {
			x.t.Fatalf("%d: view of %d: %v %v", when, a, v.Active.All(), v.Passive.All())
		}
		for _, b := range v.Active.All() {
			both := x.links.Live(b) && x.overlays[b].View().Active.Has(a)
			if !both && x.links.Len(a, b)+x.links.Len(b, a) == 0 {
				x.t.Fatalf("%d: %d is active to %d only, and nothing is in transit", when, b, a)
			}
		}
	}
}

// configs returns some that are small, so that there is often no room.
func configs() []overlay.Config {
	return []overlay.Config{
		{Active: 2, Passive: 1, Far: 3, Near: 1, MixActive: 1, MixPass: 1, Every: 3, Seeds: nodes(1)},
		{Active: 2, Passive: 3, Far: 0, Near: 0, MixActive: 0, MixPass: 4, Every: 1, Seeds: nodes(1, 2, 3)},
		{Active: 3, Passive: 2, Far: 5, Near: 2, MixActive: 2, MixPass: 2, Every: 2, Seeds: nodes(6, 1)},
		{Active: 64, Passive: 64, Far: 15, Near: 15, MixActive: 64, MixPass: 64, Every: 5, Seeds: upTo(1, 6)},
	}
}

// TestBothSides: whatever nodes and links do.
func TestBothSides(t *testing.T) {
	for i, c := range configs() {
		x := newNet(t, c, uint32(77*i+1))
		met := 0
		for when := range 40000 {
			x.step()
			x.check(when)
			met += x.overlays[1].View().Active.Len()
		}
		if met == 0 {
			t.Error(i, "never active")
		}
	}
}

// TestBothSidesInjected: also with messages that no overlay would send then.
func TestBothSidesInjected(t *testing.T) {
	for i, c := range configs() {
		x := newNet(t, c, uint32(55*i+3))
		for when := range 20000 {
			if x.next(10) == 0 {
				x.inject(x.next(size)+1, x.next(size)+1)
			}
			x.step()
			x.check(when)
		}
	}
}

// TestMeet: with links that remain, every node finds active nodes through the seeds, on both sides.
func TestMeet(t *testing.T) {
	for i, c := range configs() {
		x := newNet(t, c, uint32(33*i+5))
		for when := range 60 {
			x.round()
			x.check(when)
		}
		for n := 1; n <= size; n++ {
			if x.overlays[n].View().Active.Len() == 0 {
				t.Error(i, n, "is alone")
			}
		}
	}
}

// TestAnyMessages: whatever messages arrive, from whomever, the view keeps its rules and its capacities (P13.4).
func TestAnyMessages(t *testing.T) {
	for i, c := range configs() {
		x := newNet(t, c, uint32(11*i+7))
		o := x.overlays[1]
		numbers := append(upTo(-1, 12), notNodes...)
		pick := func() int { return numbers[x.next(len(numbers))] }
		for when := range 20000 {
			m := message.Msg{Kind: x.next(message.Delta + 2), Node: pick(), Walk: pick(), High: x.next(2) == 0}
			for range x.next(6) {
				m.Nodes = append(m.Nodes, pick())
			}
			o.Take(pick(), m, x.draw())
			switch x.next(10) {
			case 0:
				o.Broke(pick())
			case 1:
				o.Tick(x.draw())
			}
			v := o.View()
			if v.Self != 1 || !v.Sane() || v.Active.Len() > c.Active || v.Passive.Len() > c.Passive {
				t.Fatal(i, when, m, v.Active.All(), v.Passive.All())
			}
			for _, n := range append(v.Active.All(), v.Passive.All()...) {
				if n < 1 || n > api.MaxNode {
					t.Fatal(i, when, m, "knows", n)
				}
			}
		}
	}
}
