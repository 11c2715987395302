package message_test

import (
	"math"
	"slices"
	"strings"
	"testing"

	"bellhop/api"
	"bellhop/message"
)

// rest is what follows the kind in the encoding of a message without other fields.
const rest = "\x00\x00\x00\x00\x00\x00\x00"

// full returns a message with something in every field.
func full() message.Msg {
	return message.Msg{
		Kind: message.Delta, Node: 258, Walk: 15, High: true,
		Nodes: []int{1, 65535, 772},
		Ids:   []message.Id{{Key: "ab", Ver: 0x0102030405060708}, {}},
		Recs: []message.Rec{
			{Id: message.Id{Key: "c", Ver: math.MaxUint64}, Origin: 513, Age: 65535, Gone: true},
			{Id: message.Id{Ver: 1}, Origin: 65535, Data: "xyz"},
		},
	}
}

// fullBytes is the encoding of full.
const fullBytes = "\x0e\x01\x02\x0f\x01" +
	"\x03\x00\x01\xff\xff\x03\x04" +
	"\x02\x02ab\x01\x02\x03\x04\x05\x06\x07\x08\x00\x00\x00\x00\x00\x00\x00\x00\x00" +
	"\x02\x01c\xff\xff\xff\xff\xff\xff\xff\xff\x02\x01\xff\xff\x01\x00" +
	"\x00\x00\x00\x00\x00\x00\x00\x00\x01\xff\xff\x00\x00\x00\x03xyz"

// encodes checks that a message has this encoding, and that it is decoded again.
func encodes(t *testing.T, name string, m message.Msg, want string) {
	t.Helper()
	s, e := message.Encode(m)
	if s != want || e != api.OK {
		t.Errorf("%s: %q %d, want %q", name, s, e, want)
	}
	if got, e := message.Decode(want); e != api.OK || !message.Same(got, m) {
		t.Errorf("%s: %+v %d, want %+v", name, got, e, m)
	}
}

// refuses checks that Encode returns just an error.
func refuses(t *testing.T, name string, m message.Msg, want api.Errno) {
	t.Helper()
	if s, e := message.Encode(m); s != "" || e != want {
		t.Errorf("%s: %q %d, want %d", name, s, e, want)
	}
}

// isZero reports whether no field of a message is set.
func isZero(m message.Msg) bool {
	return message.Same(m, message.Msg{}) && m.Nodes == nil && m.Ids == nil && m.Recs == nil
}

// wrong checks that Decode returns just an error.
func wrong(t *testing.T, name, s string, want api.Errno) {
	t.Helper()
	if m, e := message.Decode(s); !isZero(m) || e != want {
		t.Errorf("%s: %q: %+v %d, want %d", name, s, m, e, want)
	}
}

// ids returns so many ids with keys of so many bytes.
func ids(n, size int) []message.Id {
	return slices.Repeat([]message.Id{{Key: strings.Repeat("k", size), Ver: 7}}, n)
}

func TestKinds(t *testing.T) {
	kinds := []int{
		message.Join, message.Forward, message.Ask, message.Yes, message.No, message.Bye, message.Shuffle,
		message.Mixed, message.Gossip, message.Have, message.Graft, message.Prune, message.Digest, message.Delta,
	}
	for i, k := range kinds {
		if k != i+1 {
			t.Errorf("kind %d is %d", i+1, k)
		}
		encodes(t, "kind", message.Msg{Kind: k}, string([]byte{byte(k)})+rest)
	}
}

func TestEncoding(t *testing.T) {
	encodes(t, "example", message.Msg{Kind: message.Bye}, "\x06\x00\x00\x00\x00\x00\x00\x00")
	encodes(t, "all fields", full(), fullBytes)
	encodes(t, "node", message.Msg{Kind: 1, Node: 0x1234}, "\x01\x12\x34\x00\x00\x00\x00\x00")
	encodes(t, "greatest node", message.Msg{Kind: 1, Node: 65535}, "\x01\xff\xff\x00\x00\x00\x00\x00")
	encodes(t, "walk", message.Msg{Kind: 2, Walk: 15}, "\x02\x00\x00\x0f\x00\x00\x00\x00")
	encodes(t, "high", message.Msg{Kind: 3, High: true}, "\x03\x00\x00\x00\x01\x00\x00\x00")
	encodes(t, "empty lists", message.Msg{Kind: 4, Nodes: []int{}, Ids: []message.Id{}, Recs: []message.Rec{}}, "\x04"+rest)
}

func TestEncodingAtTheLimits(t *testing.T) {
	nodes := slices.Repeat([]int{65535}, 64)
	encodes(t, "nodes", message.Msg{Kind: 8, Nodes: nodes}, "\x08\x00\x00\x00\x00\x40"+strings.Repeat("\xff", 128)+"\x00\x00")

	id := "\x02kk\x00\x00\x00\x00\x00\x00\x00\x07"
	encodes(t, "ids", message.Msg{Kind: 10, Ids: ids(64, 2)}, "\x0a\x00\x00\x00\x00\x00\x40"+strings.Repeat(id, 64)+"\x00")

	key, data := strings.Repeat("k", 64), strings.Repeat("\xff", 64)
	x := message.Rec{Id: message.Id{Key: key, Ver: 1}, Origin: 1, Age: 256, Data: data}
	rec := "\x40" + key + "\x00\x00\x00\x00\x00\x00\x00\x01\x00\x01\x01\x00\x00\x40" + data
	recs := slices.Repeat([]message.Rec{x}, 16)
	encodes(t, "recs", message.Msg{Kind: 9, Recs: recs}, "\x09\x00\x00\x00\x00\x00\x00\x10"+strings.Repeat(rec, 16))
}

func TestEncodeInvalid(t *testing.T) {
	changes := map[string]func(m *message.Msg){
		"kind 0":         func(m *message.Msg) { m.Kind = 0 },
		"kind 15":        func(m *message.Msg) { m.Kind = 15 },
		"kind -1":        func(m *message.Msg) { m.Kind = -1 },
		"kind 257":       func(m *message.Msg) { m.Kind = 257 },
		"greatest kind":  func(m *message.Msg) { m.Kind = math.MaxInt },
		"node -1":        func(m *message.Msg) { m.Node = -1 },
		"node 65536":     func(m *message.Msg) { m.Node = 65536 },
		"least node":     func(m *message.Msg) { m.Node = math.MinInt },
		"walk -1":        func(m *message.Msg) { m.Walk = -1 },
		"walk 16":        func(m *message.Msg) { m.Walk = 16 },
		"walk 256":       func(m *message.Msg) { m.Walk = 256 },
		"65 nodes":       func(m *message.Msg) { m.Nodes = slices.Repeat([]int{1}, 65) },
		"321 nodes":      func(m *message.Msg) { m.Nodes = slices.Repeat([]int{1}, 321) },
		"0 of nodes":     func(m *message.Msg) { m.Nodes[2] = 0 },
		"-1 of nodes":    func(m *message.Msg) { m.Nodes[0] = -1 },
		"65536 of nodes": func(m *message.Msg) { m.Nodes[1] = 65536 },
		"65 ids":         func(m *message.Msg) { m.Ids = make([]message.Id, 65) },
		"key of an id":   func(m *message.Msg) { m.Ids[1].Key = strings.Repeat("k", 65) },
		"long key":       func(m *message.Msg) { m.Ids[0].Key = strings.Repeat("k", 256) },
		"17 recs":        func(m *message.Msg) { m.Recs = slices.Repeat(m.Recs[:1], 17) },
		"key of a rec":   func(m *message.Msg) { m.Recs[1].Key = strings.Repeat("k", 65) },
		"data":           func(m *message.Msg) { m.Recs[1].Data = strings.Repeat("d", 65) },
		"long data":      func(m *message.Msg) { m.Recs[0].Data = strings.Repeat("d", 256) },
		"origin 0":       func(m *message.Msg) { m.Recs[1].Origin = 0 },
		"origin -1":      func(m *message.Msg) { m.Recs[0].Origin = -1 },
		"origin 65536":   func(m *message.Msg) { m.Recs[0].Origin = 65536 },
		"age -1":         func(m *message.Msg) { m.Recs[1].Age = -1 },
		"age 65536":      func(m *message.Msg) { m.Recs[0].Age = 65536 },
		"least age":      func(m *message.Msg) { m.Recs[0].Age = math.MinInt },
	}
	for name, change := range changes {
		m := full()
		change(&m)
		refuses(t, name, m, api.ErrArg)
	}
	refuses(t, "zero message", message.Msg{}, api.ErrArg)
}

func TestEncodeLong(t *testing.T) {
	// 56 ids of 73 bytes and the other eight bytes are just MaxFrame bytes.
	m := message.Msg{Kind: message.Have, Ids: ids(56, 64)}
	s, e := message.Encode(m)
	if len(s) != api.MaxFrame || e != api.OK {
		t.Error(len(s), e)
	}
	if got, e := message.Decode(s); e != api.OK || !message.Same(got, m) {
		t.Error(got, e)
	}
	m.Ids = slices.Concat(ids(55, 64), ids(1, 56), ids(1, 0))
	refuses(t, "one byte more", m, api.ErrLong)
	m.Ids = slices.Concat(ids(55, 64), ids(1, 55), ids(1, 0))
	if s, e := message.Encode(m); len(s) != api.MaxFrame || e != api.OK {
		t.Error(len(s), e)
	}
	m.Nodes = []int{1}
	refuses(t, "a node more", m, api.ErrLong)
	m = message.Msg{Kind: message.Have, Ids: ids(64, 64)}
	refuses(t, "64 long keys", m, api.ErrLong)
	m.Kind = 0
	refuses(t, "long and invalid", m, api.ErrArg)
}

func TestDecodeShort(t *testing.T) {
	for i := range len(fullBytes) {
		wrong(t, "prefix", fullBytes[:i], api.ErrShort)
	}
	for i := range len("\x06" + rest) {
		wrong(t, "prefix of a Bye", ("\x06" + rest)[:i], api.ErrShort)
	}
}

func TestDecodeLong(t *testing.T) {
	for _, more := range []string{"\x00", "a", "\x02", fullBytes} {
		wrong(t, "more bytes", fullBytes+more, api.ErrLong)
		wrong(t, "more bytes than a Bye", "\x06"+rest+more, api.ErrLong)
	}
	tail := strings.Repeat("\x00", api.MaxFrame-8)
	wrong(t, "MaxFrame bytes", "\x06"+rest+tail, api.ErrLong)
	wrong(t, "too many bytes", "\x06"+rest+tail+"\x00", api.ErrLong)
	wrong(t, "a wrong flag in MaxFrame bytes", "\x06\x00\x00\x00\x02\x00\x00\x00"+tail, api.ErrForm)
	wrong(t, "a wrong flag in too many bytes", "\x06\x00\x00\x00\x02\x00\x00\x00"+tail+"\x00", api.ErrLong)
	wrong(t, "missing bytes of too many", "\x06\x00\x00\x00\x00\x00\x40"+strings.Repeat("\x40", api.MaxFrame), api.ErrLong)
	// An encoding that Encode would refuse as too long.
	id := "\x40" + strings.Repeat("k", 64) + "\x00\x00\x00\x00\x00\x00\x00\x07"
	wrong(t, "64 long keys", "\x0a\x00\x00\x00\x00\x00\x40"+strings.Repeat(id, 64)+"\x00", api.ErrLong)
}

// TestDecodeRefusesAtOnce has what is checked before anything behind it is read, however the bytes end.
func TestDecodeRefusesAtOnce(t *testing.T) {
	key := strings.Repeat("k", 65)
	ver := "\x00\x00\x00\x00\x00\x00\x00\x01"
	starts := map[string]string{
		"high 2":           "\x06\x00\x00\x00\x02",
		"high 255":         "\x06\x00\x00\x00\xff",
		"65 nodes":         "\x06\x00\x00\x00\x00\x41",
		"255 nodes":        "\x06\x00\x00\x00\x00\xff",
		"65 ids":           "\x06\x00\x00\x00\x00\x00\x41",
		"key of an id":     "\x06\x00\x00\x00\x00\x00\x01\x41" + key,
		"long key":         "\x06\x00\x00\x00\x00\x00\x01\xff" + strings.Repeat("k", 255),
		"17 recs":          "\x06\x00\x00\x00\x00\x00\x00\x11",
		"key of a rec":     "\x06\x00\x00\x00\x00\x00\x00\x01\x41" + key,
		"gone 2":           "\x06\x00\x00\x00\x00\x00\x00\x01\x00" + ver + "\x00\x01\x00\x00\x02",
		"data":             "\x06\x00\x00\x00\x00\x00\x00\x01\x00" + ver + "\x00\x01\x00\x00\x00\x41" + key,
		"high 2 of kind 0": "\x00\x00\x00\x00\x02",
	}
	for name, s := range starts {
		for _, more := range []string{"", "\x00", rest, strings.Repeat("\x00", 200)} {
			wrong(t, name, s+more, api.ErrForm)
		}
		wrong(t, name+", the last byte missing", s[:len(s)-1], api.ErrShort)
	}
}

// TestDecodeRefusesAtTheEnd has the other numbers: missing and additional bytes come first.
func TestDecodeRefusesAtTheEnd(t *testing.T) {
	ver := "\x00\x00\x00\x00\x00\x00\x00\x01"
	tests := map[string]string{
		"kind 0":   "\x00" + rest,
		"kind 15":  "\x0f" + rest,
		"kind 255": "\xff" + rest,
		"walk 16":  "\x06\x00\x00\x10\x00\x00\x00\x00",
		"walk 255": "\x06\x00\x00\xff\x00\x00\x00\x00",
		"node 0":   "\x06\x00\x00\x00\x00\x02\x00\x01\x00\x00\x00\x00",
		"origin 0": "\x06\x00\x00\x00\x00\x00\x00\x01\x01k" + ver + "\x00\x00\x00\x00\x00\x00",
	}
	for name, s := range tests {
		wrong(t, name, s, api.ErrForm)
		wrong(t, name+" and more", s+"\x00", api.ErrLong)
		for i := range len(s) {
			wrong(t, name+" and less", s[:i], api.ErrShort)
		}
	}
	wrong(t, "kind 0 and a wrong count", "\x00\x00\x00\x00\x00\x41", api.ErrForm)
}

// TestDecodeIsTheInverse tries bytes near to encodings: what is decoded has no other encoding.
func TestDecodeIsTheInverse(t *testing.T) {
	decoded := 0
	for i := range len(fullBytes) {
		for b := range 256 {
			s := fullBytes[:i] + string([]byte{byte(b)}) + fullBytes[i+1:]
			m, e := message.Decode(s)
			if e != api.OK {
				if !isZero(m) {
					t.Errorf("%q: %d beside %+v", s, e, m)
				}
				continue
			}
			decoded++
			if again, e := message.Encode(m); again != s || e != api.OK {
				t.Errorf("%q: %q %d", s, again, e)
			}
		}
	}
	if decoded < 1000 {
		t.Error("decoded only", decoded)
	}
}

func TestArgumentsAreNotModified(t *testing.T) {
	m := full()
	nodes, ids, recs := append(m.Nodes, 9, 9), append(m.Ids, message.Id{Key: "x"}), append(m.Recs, message.Rec{Data: "x"})
	m.Nodes, m.Ids, m.Recs = nodes[:3], ids[:2], recs[:2]
	if s, e := message.Encode(m); s != fullBytes || e != api.OK {
		t.Errorf("%q %d", s, e)
	}
	if !message.Same(m, full()) {
		t.Error("modified", m)
	}
	if nodes[3] != 9 || nodes[4] != 9 || ids[2].Key != "x" || recs[2].Data != "x" {
		t.Error("spare capacity modified", nodes, ids, recs)
	}
}

func TestDecodedMessagesAreNew(t *testing.T) {
	a, _ := message.Decode(fullBytes)
	b, _ := message.Decode(fullBytes)
	a.Nodes[0], a.Ids[0].Key, a.Recs[0].Data = 99, "other", "other"
	_, _, _ = append(a.Nodes, 99), append(a.Ids, message.Id{}), append(a.Recs, message.Rec{})
	if !message.Same(b, full()) {
		t.Error(b)
	}
}

func TestSame(t *testing.T) {
	if !message.Same(full(), full()) || !message.Same(message.Msg{}, message.Msg{}) {
		t.Error("not the same as itself")
	}
	empty := message.Msg{Nodes: []int{}, Ids: []message.Id{}, Recs: []message.Rec{}}
	if !message.Same(empty, message.Msg{}) || !message.Same(message.Msg{}, empty) {
		t.Error("empty lists differ")
	}
	changes := map[string]func(m *message.Msg){
		"kind":           func(m *message.Msg) { m.Kind-- },
		"node":           func(m *message.Msg) { m.Node++ },
		"walk":           func(m *message.Msg) { m.Walk-- },
		"high":           func(m *message.Msg) { m.High = false },
		"a node":         func(m *message.Msg) { m.Nodes[1]-- },
		"order of nodes": func(m *message.Msg) { slices.Reverse(m.Nodes) },
		"fewer nodes":    func(m *message.Msg) { m.Nodes = m.Nodes[:2] },
		"no nodes":       func(m *message.Msg) { m.Nodes = nil },
		"key of an id":   func(m *message.Msg) { m.Ids[0].Key = "aB" },
		"ver of an id":   func(m *message.Msg) { m.Ids[1].Ver = 1 },
		"order of ids":   func(m *message.Msg) { slices.Reverse(m.Ids) },
		"more ids":       func(m *message.Msg) { m.Ids = append(m.Ids, message.Id{}) },
		"no ids":         func(m *message.Msg) { m.Ids = nil },
		"key of a rec":   func(m *message.Msg) { m.Recs[0].Key = "d" },
		"ver of a rec":   func(m *message.Msg) { m.Recs[0].Ver-- },
		"origin":         func(m *message.Msg) { m.Recs[1].Origin-- },
		"age":            func(m *message.Msg) { m.Recs[0].Age-- },
		"gone":           func(m *message.Msg) { m.Recs[1].Gone = true },
		"data":           func(m *message.Msg) { m.Recs[1].Data = "xy" },
		"order of recs":  func(m *message.Msg) { slices.Reverse(m.Recs) },
		"fewer recs":     func(m *message.Msg) { m.Recs = m.Recs[:1] },
		"no recs":        func(m *message.Msg) { m.Recs = []message.Rec{} },
	}
	for name, change := range changes {
		m := full()
		change(&m)
		if message.Same(m, full()) || message.Same(full(), m) {
			t.Error(name, "makes no difference")
		}
	}
}

// TestSameOfInvalid: any two messages can be compared.
func TestSameOfInvalid(t *testing.T) {
	a := message.Msg{Kind: -1, Node: math.MaxInt, Nodes: slices.Repeat([]int{-1}, 1000), Recs: make([]message.Rec, 100)}
	b := a
	b.Nodes, b.Recs = slices.Clone(a.Nodes), slices.Clone(a.Recs)
	if !message.Same(a, b) {
		t.Error("equal messages differ")
	}
	b.Nodes[999] = 0
	if message.Same(a, b) {
		t.Error("no difference in the last node")
	}
}
