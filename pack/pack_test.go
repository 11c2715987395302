package pack_test

import (
	"errors"
	"math"
	"runtime"
	"strings"
	"testing"

	"bellhop/api"
	"bellhop/pack"
)

// writes checks what Write returns for an f.
func writes(t *testing.T, name, want string, wantErr api.Errno, f func(w *pack.Writer)) {
	t.Helper()
	if got, e := pack.Write(f); got != want || e != wantErr {
		t.Errorf("%s: %q %d, want %q %d", name, got, e, want, wantErr)
	}
}

// reads checks what Read returns for an f.
func reads(t *testing.T, name, s string, want api.Errno, f func(r *pack.Reader)) {
	t.Helper()
	if e := pack.Read(s, f); e != want {
		t.Errorf("%s: %d, want %d", name, e, want)
	}
}

// caught returns what f panics with, and nil if it does not panic.
func caught(f func()) (x any) {
	defer func() { x = recover() }()
	f()
	return nil
}

// greatest number of so many bytes.
func greatest(size int) uint64 {
	return math.MaxUint64 >> (64 - 8*size)
}

func TestWriteFields(t *testing.T) {
	writes(t, "example", "\x01\x02\x01a", api.OK, func(w *pack.Writer) {
		w.Num(258, 2)
		w.Text("a")
	})
	writes(t, "nothing", "", api.OK, func(w *pack.Writer) {})
	writes(t, "order", "bc\x00\x00\x07\x02xyd", api.OK, func(w *pack.Writer) {
		w.Raw("bc")
		w.Num(7, 3)
		w.Text("xy")
		w.Raw("")
		w.Raw("d")
	})
	writes(t, "empty text", "\x00", api.OK, func(w *pack.Writer) { w.Text("") })
	long := strings.Repeat("\xff", 255)
	writes(t, "longest text", "\xff"+long, api.OK, func(w *pack.Writer) { w.Text(long) })
	raw := strings.Repeat("r", 70000)
	writes(t, "long raw bytes", raw, api.OK, func(w *pack.Writer) { w.Raw(raw) })
}

func TestWriteNumbers(t *testing.T) {
	const n = 0x0102030405060708
	bytes := "\x01\x02\x03\x04\x05\x06\x07\x08"
	for size := 1; size <= 8; size++ {
		writes(t, "digits", bytes[8-size:], api.OK, func(w *pack.Writer) { w.Num(n&greatest(size), size) })
		writes(t, "zero", strings.Repeat("\x00", size), api.OK, func(w *pack.Writer) { w.Num(0, size) })
		writes(t, "greatest", strings.Repeat("\xff", size), api.OK, func(w *pack.Writer) { w.Num(greatest(size), size) })
		if size < 8 {
			writes(t, "one too great", "", api.ErrRange, func(w *pack.Writer) { w.Num(greatest(size)+1, size) })
			writes(t, "much too great", "", api.ErrRange, func(w *pack.Writer) { w.Num(math.MaxUint64, size) })
		}
	}
}

func TestWriteErrors(t *testing.T) {
	for _, size := range []int{0, -1, 9, 16, math.MinInt, math.MaxInt} {
		writes(t, "size", "", api.ErrRange, func(w *pack.Writer) { w.Num(0, size) })
	}
	for _, n := range []int{256, 257, 512, 65536} {
		writes(t, "text", "", api.ErrLong, func(w *pack.Writer) { w.Text(strings.Repeat("a", n)) })
	}
	writes(t, "error after bytes", "", api.ErrRange, func(w *pack.Writer) {
		w.Raw("abc")
		w.Num(256, 1)
	})
	writes(t, "first error", "", api.ErrLong, func(w *pack.Writer) {
		w.Text(strings.Repeat("a", 256))
		w.Num(0, 0)
	})
}

func TestWriteEndsAtOnce(t *testing.T) {
	wrong := []func(w *pack.Writer){
		func(w *pack.Writer) { w.Num(0, 9) },
		func(w *pack.Writer) { w.Num(256, 1) },
		func(w *pack.Writer) { w.Text(strings.Repeat("a", 256)) },
	}
	for i, f := range wrong {
		behind, deferred := false, false
		pack.Write(func(w *pack.Writer) {
			defer func() { deferred = true }()
			f(w)
			behind = true
		})
		if behind || !deferred {
			t.Error(i, behind, deferred)
		}
	}
}

func TestReadFields(t *testing.T) {
	reads(t, "all", "\x01\x02\x01abc\x00", api.OK, func(r *pack.Reader) {
		lefts := []int{r.Left()}
		if n := r.Num(2); n != 258 {
			t.Error(n)
		}
		lefts = append(lefts, r.Left())
		if s := r.Text(); s != "a" {
			t.Errorf("%q", s)
		}
		lefts = append(lefts, r.Left())
		if s := r.Raw(0); s != "" {
			t.Errorf("%q", s)
		}
		if s := r.Raw(2); s != "bc" {
			t.Errorf("%q", s)
		}
		lefts = append(lefts, r.Left())
		if s := r.Text(); s != "" {
			t.Errorf("%q", s)
		}
		lefts = append(lefts, r.Left())
		for i, want := range []int{7, 5, 3, 1, 0} {
			if lefts[i] != want {
				t.Error("left", lefts)
			}
		}
	})
	reads(t, "nothing", "", api.OK, func(r *pack.Reader) {
		if r.Left() != 0 || r.Raw(0) != "" {
			t.Error("something of nothing")
		}
	})
}

func TestReadNumbers(t *testing.T) {
	for size := 1; size <= 8; size++ {
		for _, n := range []uint64{0, 1, greatest(size), 0x8182838485868788 & greatest(size)} {
			s, e := pack.Write(func(w *pack.Writer) { w.Num(n, size) })
			if e != api.OK {
				t.Error(n, size, e)
			}
			reads(t, "number", s, api.OK, func(r *pack.Reader) {
				if got := r.Num(size); got != n {
					t.Error(size, got, n)
				}
			})
		}
	}
}

func TestReadTexts(t *testing.T) {
	for _, n := range []int{0, 1, 127, 128, 255} {
		want := strings.Repeat("\xe9", n)
		reads(t, "text", string([]byte{byte(n)})+want, api.OK, func(r *pack.Reader) {
			if got := r.Text(); got != want {
				t.Errorf("%d: %q", n, got)
			}
		})
	}
}

func TestReadErrors(t *testing.T) {
	for _, size := range []int{0, -1, 9, math.MinInt, math.MaxInt} {
		for _, s := range []string{"", "a", strings.Repeat("a", 20)} {
			reads(t, "size", s, api.ErrRange, func(r *pack.Reader) { r.Num(size) })
		}
	}
	for _, n := range []int{-1, -2, math.MinInt} {
		reads(t, "negative", "", api.ErrRange, func(r *pack.Reader) { r.Raw(n) })
		reads(t, "negative", "abc", api.ErrRange, func(r *pack.Reader) { r.Raw(n) })
	}
	for size := 1; size <= 8; size++ {
		reads(t, "short number", strings.Repeat("a", size-1), api.ErrShort, func(r *pack.Reader) { r.Num(size) })
	}
	for _, s := range []string{"", "\x01", "\x03ab", "\xff" + strings.Repeat("a", 254)} {
		reads(t, "short text", s, api.ErrShort, func(r *pack.Reader) { r.Text() })
	}
	for _, n := range []int{3, 4, math.MaxInt} {
		reads(t, "short bytes", "ab", api.ErrShort, func(r *pack.Reader) { r.Raw(n) })
		reads(t, "short bytes behind others", "abcd", api.ErrShort, func(r *pack.Reader) {
			r.Raw(2)
			r.Raw(n)
		})
	}
}

func TestReadLeavesBytes(t *testing.T) {
	reads(t, "none read", "a", api.ErrLong, func(r *pack.Reader) {})
	reads(t, "one left", "abc", api.ErrLong, func(r *pack.Reader) { r.Num(2) })
	reads(t, "behind a text", "\x01ab", api.ErrLong, func(r *pack.Reader) { r.Text() })
	reads(t, "an error comes first", "abc", api.ErrShort, func(r *pack.Reader) { r.Num(4) })
}

func TestReadEndsAtOnce(t *testing.T) {
	wrong := []func(r *pack.Reader){
		func(r *pack.Reader) { r.Num(0) },
		func(r *pack.Reader) { r.Num(3) },
		func(r *pack.Reader) { r.Text() },
		func(r *pack.Reader) { r.Raw(-1) },
		func(r *pack.Reader) { r.Raw(3) },
	}
	for i, f := range wrong {
		behind, deferred := false, false
		e := pack.Read("\x09a", func(r *pack.Reader) {
			defer func() { deferred = true }()
			f(r)
			behind = true
		})
		if e == api.OK || behind || !deferred {
			t.Error(i, e, behind, deferred)
		}
	}
}

func TestRefuse(t *testing.T) {
	for e := api.OK; e <= api.ErrNum; e++ {
		want := e
		if e == api.OK {
			want = api.ErrForm
		}
		behind := false
		writes(t, "write", "", want, func(w *pack.Writer) {
			w.Raw("a")
			pack.Refuse(e)
			behind = true
		})
		reads(t, "read", "", want, func(r *pack.Reader) {
			pack.Refuse(e)
			behind = true
		})
		reads(t, "read with bytes left", "ab", want, func(r *pack.Reader) {
			pack.Refuse(e)
			behind = true
		})
		if behind {
			t.Error("not ended by", e)
		}
	}
}

func TestRefuseEndsTheInnerOne(t *testing.T) {
	writes(t, "outer", "ab", api.OK, func(w *pack.Writer) {
		w.Raw("a")
		reads(t, "inner read", "x", api.ErrName, func(r *pack.Reader) { pack.Refuse(api.ErrName) })
		writes(t, "inner write", "", api.ErrRange, func(w *pack.Writer) { w.Num(1, 0) })
		writes(t, "inner write", "c", api.OK, func(w *pack.Writer) { w.Raw("c") })
		w.Raw("b")
	})
}

func TestOtherPanics(t *testing.T) {
	type own struct{ e api.Errno }
	p := &own{api.ErrForm}
	for _, x := range []any{"mine", 7, own{api.ErrName}, p, errors.New("mine"), api.ErrForm, api.OK} {
		if got := caught(func() { pack.Write(func(w *pack.Writer) { panic(x) }) }); got != x {
			t.Error("write", got, x)
		}
		if got := caught(func() { pack.Read("a", func(r *pack.Reader) { panic(x) }) }); got != x {
			t.Error("read", got, x)
		}
		if got := caught(func() {
			pack.Write(func(w *pack.Writer) {
				pack.Read("a", func(r *pack.Reader) { panic(x) })
			})
		}); got != x {
			t.Error("nested", got, x)
		}
	}
	var l []int
	got := caught(func() { pack.Write(func(w *pack.Writer) { l[0]++ }) })
	if _, ok := got.(runtime.Error); !ok {
		t.Error(got)
	}
}

func TestPanicsOutside(t *testing.T) {
	outside := map[string]func(){
		"zero Writer Num":  func() { new(pack.Writer).Num(1, 1) },
		"zero Writer Text": func() { new(pack.Writer).Text("a") },
		"zero Writer Raw":  func() { new(pack.Writer).Raw("a") },
		"nil Writer Num":   func() { (*pack.Writer)(nil).Num(1, 1) },
		"nil Writer Text":  func() { (*pack.Writer)(nil).Text("a") },
		"nil Writer Raw":   func() { (*pack.Writer)(nil).Raw("a") },
		"zero Reader Num":  func() { new(pack.Reader).Num(1) },
		"zero Reader Text": func() { new(pack.Reader).Text() },
		"zero Reader Raw":  func() { new(pack.Reader).Raw(0) },
		"zero Reader Left": func() { new(pack.Reader).Left() },
		"nil Reader Num":   func() { (*pack.Reader)(nil).Num(1) },
		"nil Reader Text":  func() { (*pack.Reader)(nil).Text() },
		"nil Reader Raw":   func() { (*pack.Reader)(nil).Raw(0) },
		"nil Reader Left":  func() { (*pack.Reader)(nil).Left() },
		"Refuse":           func() { pack.Refuse(api.ErrForm) },
		"Refuse of OK":     func() { pack.Refuse(api.OK) },
	}
	for name, f := range outside {
		if caught(f) == nil {
			t.Error(name)
		}
	}
}
