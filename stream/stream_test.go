package stream_test

import (
	"slices"
	"strings"
	"testing"

	"bellhop/api"
	"bellhop/message"
	"bellhop/stream"
)

// frame of a message that has one.
func frame(t *testing.T, m message.Msg) string {
	t.Helper()
	s, e := stream.Frame(m)
	if e != api.OK {
		t.Fatal(m, e)
	}
	return s
}

// largest returns a message whose encoding has MaxFrame bytes.
func largest() message.Msg {
	id := message.Id{Key: strings.Repeat("k", 64), Ver: 7}
	return message.Msg{Kind: message.Have, Ids: slices.Repeat([]message.Id{id}, 56)}
}

// some messages, of small and large encodings.
func some() []message.Msg {
	return []message.Msg{
		{Kind: message.Bye},
		{Kind: message.Shuffle, Node: 7, Walk: 3, Nodes: []int{1, 2, 65535}},
		{Kind: message.Ask, High: true},
		largest(),
		{Kind: message.Gossip, Recs: []message.Rec{{Id: message.Id{Key: "k", Ver: 9}, Origin: 1, Data: "\x00\x08\x06"}}},
		{Kind: message.Bye},
	}
}

// frames returns the frames of messages as one stream.
func frames(t *testing.T, l ...message.Msg) string {
	t.Helper()
	s := ""
	for _, m := range l {
		s += frame(t, m)
	}
	return s
}

// holds checks what a Splitter tells of itself.
func holds(t *testing.T, name string, x *stream.Splitter, bad api.Errno, left int) {
	t.Helper()
	if x.Bad() != bad || x.Left() != left {
		t.Errorf("%s: bad %d, left %d, want %d, %d", name, x.Bad(), x.Left(), bad, left)
	}
}

// feeds checks which messages are returned for bytes.
func feeds(t *testing.T, name string, x *stream.Splitter, s string, want ...message.Msg) {
	t.Helper()
	if got := x.Feed(s); !slices.EqualFunc(got, want, message.Same) {
		t.Errorf("%s: %d messages %+v, want %d", name, len(got), got, len(want))
	}
}

func TestFrame(t *testing.T) {
	if s := frame(t, message.Msg{Kind: message.Bye}); s != "\x00\x08\x06\x00\x00\x00\x00\x00\x00\x00" {
		t.Errorf("%q", s)
	}
	for i, m := range some() {
		s, e := message.Encode(m)
		want := string([]byte{byte(len(s) / 256), byte(len(s))}) + s
		if got := frame(t, m); e != api.OK || got != want {
			t.Errorf("%d: %q, want %q", i, got, want)
		}
	}
	if s := frame(t, largest()); len(s) != 2+api.MaxFrame || s[:2] != "\x10\x00" {
		t.Errorf("%d %q", len(s), s[:2])
	}
}

func TestFrameErrors(t *testing.T) {
	long := largest()
	long.Nodes = []int{1}
	tests := []struct {
		m    message.Msg
		want api.Errno
	}{
		{message.Msg{}, api.ErrArg},
		{message.Msg{Kind: 15}, api.ErrArg},
		{message.Msg{Kind: message.Bye, Node: -1}, api.ErrArg},
		{message.Msg{Kind: message.Bye, Nodes: make([]int, 70000)}, api.ErrArg},
		{long, api.ErrLong},
	}
	for _, x := range tests {
		if s, e := stream.Frame(x.m); s != "" || e != x.want {
			t.Errorf("%q %d, want %d", s, e, x.want)
		}
	}
}

func TestNewSplitter(t *testing.T) {
	var x stream.Splitter
	holds(t, "new", &x, api.OK, 0)
	feeds(t, "nothing", &x, "")
	holds(t, "nothing", &x, api.OK, 0)
}

func TestTwoPieces(t *testing.T) {
	m := some()[1]
	s := frame(t, m)
	for i := range len(s) {
		var x stream.Splitter
		feeds(t, "first piece", &x, s[:i])
		holds(t, "first piece", &x, api.OK, i)
		feeds(t, "nothing between", &x, "")
		holds(t, "nothing between", &x, api.OK, i)
		feeds(t, "second piece", &x, s[i:], m)
		holds(t, "second piece", &x, api.OK, 0)
		feeds(t, "again", &x, s, m)
	}
}

func TestAllAtOnce(t *testing.T) {
	var x stream.Splitter
	s := frames(t, some()...)
	feeds(t, "whole frames", &x, s, some()...)
	holds(t, "whole frames", &x, api.OK, 0)
	feeds(t, "and a byte", &x, s+"\x00", some()...)
	holds(t, "and a byte", &x, api.OK, 1)
	feeds(t, "and the rest", &x, s[1:]+s[:5], some()...)
	holds(t, "and the rest", &x, api.OK, 5)
}

// TestHoweverCut cuts a stream into pieces of many sizes.
func TestHoweverCut(t *testing.T) {
	s := frames(t, some()...)
	seed := uint32(1)
	for size := 1; size < 400; size++ {
		var x stream.Splitter
		var got []message.Msg
		for rest := s; rest != ""; {
			seed = seed*1664525 + 1013904223
			n := min(1+int(seed>>16)%size, len(rest))
			got = append(got, x.Feed(rest[:n])...)
			rest = rest[n:]
		}
		if !slices.EqualFunc(got, some(), message.Same) {
			t.Fatalf("pieces up to %d: %d messages", size, len(got))
		}
		holds(t, "pieces", &x, api.OK, 0)
	}
}

// TestByteByByte checks after each byte which messages are complete and how many bytes are left.
func TestByteByByte(t *testing.T) {
	var x stream.Splitter
	for _, m := range some() {
		s := frame(t, m)
		for i := range len(s) - 1 {
			feeds(t, "not complete", &x, s[i:i+1])
			holds(t, "not complete", &x, api.OK, i+1)
		}
		feeds(t, "complete", &x, s[len(s)-1:], m)
		holds(t, "complete", &x, api.OK, 0)
	}
}

func TestTooLongFrame(t *testing.T) {
	bye := message.Msg{Kind: message.Bye}
	for _, head := range []string{"\x10\x01", "\x10\xff", "\x11\x00", "\xff\xff"} {
		var x stream.Splitter
		feeds(t, "before it", &x, frames(t, bye, bye)+head[:1], bye, bye)
		holds(t, "half a length", &x, api.OK, 1)
		feeds(t, "the length", &x, head[1:])
		holds(t, "the length", &x, api.ErrLong, 0)
		feeds(t, "after it", &x, frames(t, bye, bye))
		holds(t, "after it", &x, api.ErrLong, 0)
	}
	var x stream.Splitter
	feeds(t, "at once", &x, frame(t, bye)+"\x10\x01"+frame(t, bye), bye)
	holds(t, "at once", &x, api.ErrLong, 0)
	var y stream.Splitter
	feeds(t, "longest", &y, "\x10\x00")
	holds(t, "longest", &y, api.OK, 2)
}

func TestFrameOfNoMessage(t *testing.T) {
	bye := message.Msg{Kind: message.Bye}
	rest := "\x00\x00\x00\x00\x00\x00\x00"
	tests := []struct {
		name, frame string
		want        api.Errno
	}{
		{"empty", "\x00\x00", api.ErrShort},
		{"short", "\x00\x07\x06" + rest[1:], api.ErrShort},
		{"long", "\x00\x09\x06" + rest + "\x00", api.ErrLong},
		{"kind 0", "\x00\x08\x00" + rest, api.ErrForm},
		{"high 2", "\x00\x06\x06\x00\x00\x00\x02\x00", api.ErrForm},
		{"all zeros", "\x10\x00" + strings.Repeat("\x00", api.MaxFrame), api.ErrLong},
	}
	for _, test := range tests {
		s := frame(t, bye) + test.frame
		var x stream.Splitter
		feeds(t, test.name, &x, s[:len(s)-1], bye)
		holds(t, test.name+", a byte missing", &x, api.OK, len(test.frame)-1)
		feeds(t, test.name, &x, s[len(s)-1:]+frame(t, bye))
		holds(t, test.name, &x, test.want, 0)
		feeds(t, test.name+", afterwards", &x, frame(t, bye)+"\xff\xff")
		holds(t, test.name+", afterwards", &x, test.want, 0)
		var y stream.Splitter
		feeds(t, test.name+", at once", &y, s+frame(t, bye), bye)
		holds(t, test.name+", at once", &y, test.want, 0)
	}
}

// TestBadHoweverCut cuts streams with a wrong frame: the messages and the error are the same.
func TestBadHoweverCut(t *testing.T) {
	bye := message.Msg{Kind: message.Bye}
	for _, wrong := range []string{"\x00\x00", "\x10\x01", "\x00\x01\x06", "\x00\x09\x06\x00\x00\x00\x00\x00\x00\x00\x00"} {
		s := frame(t, bye) + wrong + frame(t, bye)
		var whole stream.Splitter
		want := whole.Feed(s)
		for i := range len(s) + 1 {
			for j := range i + 1 {
				var x stream.Splitter
				got := slices.Concat(x.Feed(s[:j]), x.Feed(s[j:i]), x.Feed(s[i:]))
				if !slices.EqualFunc(got, want, message.Same) || len(got) != 1 {
					t.Errorf("%q, %d, %d: %v", wrong, j, i, got)
				}
				holds(t, "cut", &x, whole.Bad(), 0)
			}
		}
	}
}

func TestNilSplitter(t *testing.T) {
	var x *stream.Splitter
	holds(t, "nil", x, api.ErrArg, 0)
	feeds(t, "nil", x, frames(t, some()...))
	feeds(t, "nil", x, "\xff\xff")
	holds(t, "nil", x, api.ErrArg, 0)
}

func TestSplittersShareNothing(t *testing.T) {
	m := some()[1]
	s := frame(t, m)
	var x stream.Splitter
	x.Feed(s[:6])
	y := x
	feeds(t, "a copy", &y, s[6:9])
	feeds(t, "a copy", &y, "\xff\xff")
	holds(t, "the first one", &x, api.OK, 6)
	got := x.Feed(s[6:] + s)
	if !slices.EqualFunc(got, []message.Msg{m, m}, message.Same) {
		t.Fatal(got)
	}
	got[0].Nodes[0] = 99
	if !message.Same(got[1], m) {
		t.Error("two messages share a list")
	}
}
