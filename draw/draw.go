// Package draw is layer 2: see shared/doc/02-draw.md.
package draw

import "slices"

const maxBelow = 1<<31 - 1

// Draw of numbers that were chosen outside.
type Draw struct {
	rest []uint32
}

// New returns a draw of these numbers.
func New(l ...uint32) *Draw {
	return &Draw{rest: slices.Clone(l)}
}

// Below returns the next number modulo n; 0 if there is nothing to choose.
func (d *Draw) Below(n int) int {
	if n < 2 || n > maxBelow || d.Left() == 0 {
		return 0
	}
	x := d.rest[0]
	d.rest = d.rest[1:]
	return int(x % uint32(n))
}

// Left returns how many numbers have not been consumed.
func (d *Draw) Left() int {
	if d == nil {
		return 0
	}
	return len(d.rest)
}

// One returns an element of l.
func One[T any](d *Draw, l []T) (T, bool) {
	if len(l) == 0 {
		var none T
		return none, false
	}
	return l[d.Below(len(l))], true
}

// Some returns at most n elements of l, none twice, in the order in which they are drawn.
func Some[T any](d *Draw, l []T, n int) []T {
	rest := slices.Clone(l)
	var out []T
	for range n {
		if len(rest) == 0 {
			break
		}
		i := d.Below(len(rest))
		out = append(out, rest[i])
		// Those ahead move up by one: nothing moves once the numbers have run out.
		copy(rest[1:], rest[:i])
		rest = rest[1:]
	}
	return out
}
