package record_test

import (
	"math"
	"strings"
	"testing"

	"bellhop/api"
	"bellhop/message"
	"bellhop/record"
)

const (
	label  = "abcdefghijklmnopqrstuvwxyz0123456789-_"
	maxAge = 65535
	top    = 1<<32 - 1
)

// notNodes are numbers that are no nodes.
var notNodes = []int{0, -1, -7, math.MinInt, api.MaxNode + 1, 2*api.MaxNode + 2, 1 << 32, math.MaxInt}

// notNames returns strings that are no names.
func notNames() []string {
	return []string{
		"", ".", "..", ".a", "a.", "a..b", "..a", "a..", "a.b.", ".a.b", "a...b",
		"A", "aB", "a b", " a", "a ", "a\n", "a\x00", "a/b", "a:b", "a,b", "a;b", "a@b", "a[b", "a`b", "a{b", "a^b", "a*b", "a+b",
		"ä", "a.ß", "\xff", "a\x80", "a\xe4", "a.B.c", "a.b c", "a.*",
		strings.Repeat("a", api.MaxName+1),
		strings.Repeat("a", 1000),
		strings.Repeat("a.", api.MaxName/2) + "a",
		strings.Repeat("a.", api.MaxName/2),
		strings.Repeat(".", api.MaxName),
	}
}

// names returns strings that are names.
func names() []string {
	return []string{
		"a", "z", "0", "9", "-", "_", "-_", "--", "a.b", "a.b.c", "_web._tcp", "-.-", "0.0.0.0", "a-", "-a", "web", label,
		strings.Repeat("a", api.MaxName),
		strings.Repeat("a.", api.MaxName/2-1) + "bc",
		strings.Repeat("a.", api.MaxName/2-1) + "b",
		strings.Repeat("b", api.MaxName-2) + ".c",
	}
}

func TestNamed(t *testing.T) {
	for _, s := range names() {
		if !record.Named(s) {
			t.Errorf("%q is a name", s)
		}
	}
	for _, s := range notNames() {
		if record.Named(s) {
			t.Errorf("%q is no name", s)
		}
	}
}

// TestNamedBytes: of all bytes, only those of labels make names, and a full stop between labels.
func TestNamedBytes(t *testing.T) {
	for i := range 256 {
		s := string([]byte{byte(i)})
		want := strings.Contains(label, s)
		if record.Named(s) != want || record.Named("a"+s) != want || record.Named(s+"a") != want || record.Named("a."+s) != want {
			t.Errorf("%q: want %v", s, want)
		}
		if record.Named("a"+s+"b") != (want || s == ".") {
			t.Errorf("%q within a name", s)
		}
	}
}

// TestNamedLength: a name has at most MaxName bytes, whatever its labels.
func TestNamedLength(t *testing.T) {
	for n := range 130 {
		if record.Named(strings.Repeat("x", n)) != (n >= 1 && n <= 62) {
			t.Error(n, "bytes")
		}
		if n >= 3 && record.Named("a."+strings.Repeat("x", n-2)) != (n <= 62) {
			t.Error(n, "bytes in two labels")
		}
	}
}

func TestExample(t *testing.T) {
	if k, e := record.Key(258, "a"); k != "\x01\x02\x61" || e != api.OK {
		t.Errorf("%q %v", k, e)
	}
}

func TestKey(t *testing.T) {
	tests := []struct {
		origin int
		name   string
		want   string
	}{
		{1, "a", "\x00\x01a"},
		{255, "web", "\x00\xffweb"},
		{256, "a.b", "\x01\x00a.b"},
		{0x6162, "c", "abc"},
		{api.MaxNode, "_x", "\xff\xff_x"},
		{2, strings.Repeat("n", api.MaxName), "\x00\x02" + strings.Repeat("n", api.MaxName)},
	}
	for _, x := range tests {
		if got, e := record.Key(x.origin, x.name); got != x.want || e != api.OK {
			t.Errorf("%+v: %q %v", x, got, e)
		}
	}
}

func TestKeyErrors(t *testing.T) {
	for _, n := range notNodes {
		for _, s := range append(notNames(), "a") {
			if k, e := record.Key(n, s); k != "" || e != api.ErrArg {
				t.Errorf("%d %q: %q %v", n, s, k, e)
			}
		}
	}
	for _, s := range notNames() {
		for _, n := range []int{1, 258, api.MaxNode} {
			if k, e := record.Key(n, s); k != "" || e != api.ErrName {
				t.Errorf("%d %q: %q %v", n, s, k, e)
			}
		}
	}
}

func TestSplit(t *testing.T) {
	for _, n := range []int{1, 2, 255, 256, 258, 0x2e2e, api.MaxNode} {
		for _, s := range names() {
			k, _ := record.Key(n, s)
			if len(k) > api.MaxKey {
				t.Errorf("%q is too long for a message", k)
			}
			if origin, name, e := record.Split(k); origin != n || name != s || e != api.OK {
				t.Errorf("%q: %d %q %v", k, origin, name, e)
			}
		}
	}
	wrong := []string{"", "\x00", "\x01", "a", "\x00\x00", "\x00\x01", "ab", "\x00\x00a", "\x00\x00web", "\x01a"}
	for _, s := range notNames() {
		wrong = append(wrong, "\x00\x01"+s, "\xff\xff"+s)
	}
	for _, k := range wrong {
		if origin, name, e := record.Split(k); origin != 0 || name != "" || e != api.ErrForm {
			t.Errorf("%q: %d %q %v", k, origin, name, e)
		}
	}
}

func TestVersion(t *testing.T) {
	tests := []struct {
		life, count uint32
		ver         uint64
	}{
		{0, 0, 0},
		{0, 1, 1},
		{0, top, 4294967295},
		{1, 0, 4294967296},
		{1, 1, 4294967297},
		{1, 2, 4294967298},
		{3, 7, 12884901895},
		{top, 0, 18446744069414584320},
		{top, top, math.MaxUint64},
		{0x01020304, 0x05060708, 0x0102030405060708},
	}
	for _, x := range tests {
		if got := record.Version(x.life, x.count); got != x.ver {
			t.Errorf("%+v: %d", x, got)
		}
		if life, count := record.Life(x.ver); life != x.life || count != x.count {
			t.Errorf("%+v: %d %d", x, life, count)
		}
	}
}

// service returns one whose fields all differ.
func service(name string) record.Service {
	return record.Service{Name: name, Addr: [4]byte{10, 0, 200, 255}, Port: 0x1f90, Priority: 0x0102, Weight: 0xfffe}
}

// data is that of a service.
const data = "\x0a\x00\xc8\xff\x1f\x90\x01\x02\xff\xfe"

// rec returns a record with these fields.
func rec(key string, ver uint64, origin, age int, gone bool, data string) message.Rec {
	return message.Rec{Id: message.Id{Key: key, Ver: ver}, Origin: origin, Age: age, Gone: gone, Data: data}
}

func TestMake(t *testing.T) {
	tests := []struct {
		origin int
		ver    uint64
		s      record.Service
		want   message.Rec
	}{
		{258, 1<<32 + 5, service("web.x"), rec("\x01\x02web.x", 1<<32+5, 258, 0, false, data)},
		{1, 1 << 32, record.Service{Name: "a"}, rec("\x00\x01a", 1<<32, 1, 0, false, strings.Repeat("\x00", 10))},
		{
			api.MaxNode, math.MaxUint64, record.Service{Name: "b", Addr: [4]byte{255, 255, 255, 255}, Port: 65535, Priority: 65535, Weight: 65535},
			rec("\xff\xffb", math.MaxUint64, api.MaxNode, 0, false, strings.Repeat("\xff", 10)),
		},
		{2, 7 << 32, record.Service{Name: "c", Port: 1}, rec("\x00\x02c", 7<<32, 2, 0, false, "\x00\x00\x00\x00\x00\x01\x00\x00\x00\x00")},
		{2, 7 << 32, record.Service{Name: "c", Priority: 1}, rec("\x00\x02c", 7<<32, 2, 0, false, "\x00\x00\x00\x00\x00\x00\x00\x01\x00\x00")},
		{2, 7 << 32, record.Service{Name: "c", Weight: 1}, rec("\x00\x02c", 7<<32, 2, 0, false, "\x00\x00\x00\x00\x00\x00\x00\x00\x00\x01")},
	}
	for _, x := range tests {
		got, e := record.Make(x.origin, x.ver, x.s)
		if got != x.want || e != api.OK {
			t.Errorf("%+v: %+v %v", x, got, e)
		}
		s, e := record.Tell(got)
		if s != x.s || e != api.OK || !record.Good(got) {
			t.Errorf("%+v: again %+v %v", x, s, e)
		}
	}
}

func TestGone(t *testing.T) {
	tests := []struct {
		origin int
		ver    uint64
		name   string
		want   message.Rec
	}{
		{258, 1<<32 + 5, "web.x", rec("\x01\x02web.x", 1<<32+5, 258, 0, true, "")},
		{1, 1 << 32, "a", rec("\x00\x01a", 1<<32, 1, 0, true, "")},
		{api.MaxNode, math.MaxUint64, "-", rec("\xff\xff-", math.MaxUint64, api.MaxNode, 0, true, "")},
	}
	for _, x := range tests {
		got, e := record.Gone(x.origin, x.ver, x.name)
		if got != x.want || e != api.OK || !record.Good(got) {
			t.Errorf("%+v: %+v %v", x, got, e)
		}
		if s, e := record.Tell(got); s != (record.Service{}) || e != api.ErrNone {
			t.Errorf("%+v: told %+v %v", x, s, e)
		}
	}
}

// TestMakeErrors: those of the origin come first, then those of the name, then that of the life.
func TestMakeErrors(t *testing.T) {
	both := func(origin int, ver uint64, name string, want api.Errno) {
		t.Helper()
		if x, e := record.Make(origin, ver, service(name)); x != (message.Rec{}) || e != want {
			t.Errorf("Make %d %d %q: %+v %v", origin, ver, name, x, e)
		}
		if x, e := record.Gone(origin, ver, name); x != (message.Rec{}) || e != want {
			t.Errorf("Gone %d %d %q: %+v %v", origin, ver, name, x, e)
		}
	}
	for _, n := range notNodes {
		both(n, 1<<32, "a", api.ErrArg)
		both(n, 1<<32, "", api.ErrArg)
		both(n, 0, "a", api.ErrArg)
		both(n, 0, "a.", api.ErrArg)
	}
	for _, s := range notNames() {
		both(1, 1<<32, s, api.ErrName)
		both(api.MaxNode, 0, s, api.ErrName)
	}
	for _, ver := range []uint64{0, 1, 1 << 31, top} {
		both(1, ver, "a", api.ErrRange)
		both(api.MaxNode, ver, "web.x", api.ErrRange)
	}
}

// TestGood: what is valid, told or gone, and whatever is wrong in a single field.
func TestGood(t *testing.T) {
	const key, ver = "\x01\x02a", 5 << 32
	tests := []struct {
		name string
		x    message.Rec
		want bool
	}{
		{"record", rec(key, ver, 258, 0, false, data), true},
		{"gone", rec(key, ver, 258, 0, true, ""), true},
		{"greatest age", rec(key, ver, 258, maxAge, false, data), true},
		{"gone with the greatest age", rec(key, ver, 258, maxAge, true, ""), true},
		{"least version", rec(key, 1<<32, 258, 1, false, data), true},
		{"greatest version", rec(key, math.MaxUint64, 258, 1, false, data), true},
		{"longest name", rec("\x01\x02"+strings.Repeat("a", 62), ver, 258, 1, false, data), true},
		{"any data", rec(key, ver, 258, 1, false, ".........."), true},
		{"zero", message.Rec{}, false},
		{"no key", rec("", ver, 258, 0, false, data), false},
		{"no name", rec("\x01\x02", ver, 258, 0, false, data), false},
		{"not a name", rec("\x01\x02a.", ver, 258, 0, false, data), false},
		{"too long a name", rec("\x01\x02"+strings.Repeat("a", 63), ver, 258, 0, false, data), false},
		{"another origin", rec(key, ver, 259, 0, false, data), false},
		{"another origin, gone", rec(key, ver, 1, 0, true, ""), false},
		{"origin in another order", rec(key, ver, 513, 0, false, data), false},
		{"origin beyond nodes", rec(key, ver, 258+65536, 0, false, data), false},
		{"no origin", rec(key, ver, 0, 0, false, data), false},
		{"no origin in the key either", rec("\x00\x00a", ver, 0, 0, false, data), false},
		{"no life", rec(key, 0, 258, 0, false, data), false},
		{"only a count", rec(key, top, 258, 0, false, data), false},
		{"gone without life", rec(key, top, 258, 0, true, ""), false},
		{"negative age", rec(key, ver, 258, -1, false, data), false},
		{"least age", rec(key, ver, 258, math.MinInt, false, data), false},
		{"too great an age", rec(key, ver, 258, maxAge+1, false, data), false},
		{"gone with too great an age", rec(key, ver, 258, math.MaxInt, true, ""), false},
		{"no data", rec(key, ver, 258, 0, false, ""), false},
		{"too little data", rec(key, ver, 258, 0, false, data[:9]), false},
		{"too much data", rec(key, ver, 258, 0, false, data+"\x00"), false},
		{"gone with data", rec(key, ver, 258, 0, true, data), false},
		{"gone with some data", rec(key, ver, 258, 0, true, "\x00"), false},
	}
	for _, x := range tests {
		if record.Good(x.x) != x.want {
			t.Errorf("%s: want %v", x.name, x.want)
		}
		s, e := record.Tell(x.x)
		if !x.want && (s != (record.Service{}) || e != api.ErrForm) {
			t.Errorf("%s: told %+v %v", x.name, s, e)
		}
		if _, broken := message.Encode(message.Msg{Kind: message.Gossip, Recs: []message.Rec{x.x}}); x.want && broken != api.OK {
			t.Errorf("%s: cannot be sent", x.name)
		}
	}
}

func TestTell(t *testing.T) {
	tests := []struct {
		x    message.Rec
		want record.Service
	}{
		{rec("\x01\x02web.x", 1<<32, 258, 7, false, data), service("web.x")},
		{rec("\x00\x01a", math.MaxUint64, 1, maxAge, false, "abcdefghij"), record.Service{Name: "a", Addr: [4]byte{97, 98, 99, 100}, Port: 0x6566, Priority: 0x6768, Weight: 0x696a}},
	}
	for _, x := range tests {
		if s, e := record.Tell(x.x); s != x.want || e != api.OK {
			t.Errorf("%+v: %+v %v", x.x, s, e)
		}
	}
	for _, age := range []int{0, maxAge} {
		if s, e := record.Tell(rec("\x00\x01a", 1<<32, 1, age, true, "")); s != (record.Service{}) || e != api.ErrNone {
			t.Errorf("gone: %+v %v", s, e)
		}
	}
}

// TestSent: only the age changes, also of a record that is not valid.
func TestSent(t *testing.T) {
	tests := []struct{ age, want int }{
		{0, 2}, {1, 3}, {2, 4}, {100, 102},
		{65532, 65534}, {65533, 65535}, {65534, 65535}, {65535, 65535},
		{65536, 65535}, {1 << 32, 65535}, {math.MaxInt - 1, 65535}, {math.MaxInt, 65535},
		{-1, 2}, {-2, 2}, {-3, 2}, {-65535, 2}, {math.MinInt, 2},
	}
	for _, x := range tests {
		for _, was := range []message.Rec{
			rec("\x01\x02a", 5<<32+1, 258, x.age, false, data),
			rec("\x01\x02a", 5<<32+1, 258, x.age, true, ""),
			rec("", 0, -1, x.age, true, data),
		} {
			want := was
			want.Age = x.want
			if got := record.Sent(was); got != want {
				t.Errorf("age %d: %+v", x.age, got)
			}
			if was.Age != x.age {
				t.Error("modified")
			}
		}
	}
}
