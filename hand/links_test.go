package hand_test

import (
	"strings"
	"testing"

	"bellhop/draw"
	"bellhop/hand"
	"bellhop/message"
)

const (
	size = 4 // nodes of a net, from 1 on
	most = 5 // items on a link at which a node asks no more, so that the links do not fill up
)

// item in transit: a message, or a break of the link.
type item struct {
	broken bool
	msg    message.Msg
}

// net of hands and the links between them, in each direction.
type net struct {
	active, passive int
	hands           [size + 1]hand.Hand
	links           [size + 1][size + 1][]item
	random          uint32
}

func newNet(active, passive int, random uint32) *net {
	x := &net{active: active, passive: passive, random: random}
	for n := 1; n <= size; n++ {
		x.hands[n] = hand.New(n, active, passive)
	}
	return x
}

// next returns a number below n.
func (x *net) next(n int) int {
	x.random = x.random*1664525 + 1013904223
	return int(x.random>>16) % n
}

func (x *net) send(from int, l []hand.Out) {
	for _, o := range l {
		x.links[from][o.To] = append(x.links[from][o.To], item{msg: o.Msg})
	}
}

// cut a link: all that is in transit is lost, and both nodes will know it.
func (x *net) cut(a, b int) {
	x.links[a][b] = []item{{broken: true}}
	x.links[b][a] = []item{{broken: true}}
}

// deliver the first item of a link, if there is one.
func (x *net) deliver(from, to int) {
	if len(x.links[from][to]) == 0 {
		return
	}
	first := x.links[from][to][0]
	x.links[from][to] = x.links[from][to][1:]
	d := draw.New(uint32(x.next(100)), uint32(x.next(100)))
	h := &x.hands[to]
	var sent []hand.Out
	switch {
	case first.broken:
		*h = h.OnBreak(from)
	case first.msg.Kind == message.Ask:
		*h, sent = h.OnAsk(from, first.msg.High, d)
	case first.msg.Kind == message.Yes:
		*h, sent = h.OnYes(from, d)
	case first.msg.Kind == message.No:
		*h, sent = h.OnNo(from, d)
	case first.msg.Kind == message.Bye:
		*h = h.OnBye(from, d)
	}
	x.send(to, sent)
}

// step does one of the things that may happen between two nodes.
func (x *net) step() {
	a, b := x.next(size)+1, x.next(size)+1
	switch n := x.next(100); {
	case a == b:
	case n == 0:
		x.cut(a, b)
	case n < 30 && len(x.links[a][b]) < most:
		h, sent := x.hands[a].Ask(b, n%2 == 0)
		x.hands[a] = h
		x.send(a, sent)
	default:
		x.deliver(a, b)
	}
}

// drain delivers until nothing is in transit; it reports whether that comes to an end.
func (x *net) drain() bool {
	for range 10000 {
		quiet := true
		for a := 1; a <= size; a++ {
			for b := 1; b <= size; b++ {
				quiet = quiet && len(x.links[a][b]) == 0
				x.deliver(a, b)
			}
		}
		if quiet {
			return true
		}
	}
	return false
}

// wrong tells what does not hold in the net; nothing if all does.
func (x *net) wrong() string {
	for a := 1; a <= size; a++ {
		v := x.hands[a].View
		if !v.Sane() || v.Active.Len() > x.active || v.Passive.Len() > x.passive {
			return "a view does not keep its rules and capacities"
		}
		for _, b := range v.Active.All() {
			if !x.hands[b].View.Active.Has(a) && len(x.links[a][b])+len(x.links[b][a]) == 0 {
				return "active on one side only, and nothing is in transit"
			}
		}
	}
	return ""
}

// TestBothSides: who is active on one side only has a message or a break in transit (P11.5).
func TestBothSides(t *testing.T) {
	for active := 1; active <= 4; active++ {
		for passive := range 4 {
			x := newNet(active, passive, uint32(active*77+passive))
			met := 0
			for i := range 20000 {
				x.step()
				if i%1000 == 999 && !x.drain() {
					t.Fatal(active, passive, "no end")
				}
				if w := x.wrong(); w != "" {
					t.Fatal(active, passive, i, w)
				}
				met += x.hands[1].View.Active.Len()
			}
			if met == 0 {
				t.Error(active, passive, "never active")
			}
		}
	}
}

// TestCrossing plays messages that cross: each pair of digits is a delivery, from and to.
func TestCrossing(t *testing.T) {
	tests := []struct {
		name  string
		asks  [][2]int
		order string
	}{
		{"both ask", [][2]int{{1, 2}, {2, 1}}, "12 21 12 21"},
		{"both ask, one answers first", [][2]int{{1, 2}, {2, 1}}, "12 21 21 12"},
		{"one asks", [][2]int{{1, 2}}, "12 21"},
	}
	for _, c := range tests {
		x := newNet(2, 2, 1)
		for _, a := range c.asks {
			h, sent := x.hands[a[0]].Ask(a[1], false)
			x.hands[a[0]] = h
			x.send(a[0], sent)
		}
		for w := range strings.FieldsSeq(c.order) {
			x.deliver(int(w[0]-'0'), int(w[1]-'0'))
			if w := x.wrong(); w != "" {
				t.Error(c.name, w)
			}
		}
		if !x.hands[1].View.Active.Has(2) || !x.hands[2].View.Active.Has(1) {
			t.Error(c.name, "not active")
		}
		if x.hands[1].Asked.Len()+x.hands[2].Asked.Len()+len(x.links[1][2])+len(x.links[2][1]) > 0 {
			t.Error(c.name, "not done")
		}
	}
}
