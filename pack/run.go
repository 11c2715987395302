package pack

import "bellhop/api"

// run is one call of an f, by Write or Read.
type run struct {
	self  *run // set by call, so that a zero value, or a copy, is told from what was passed to f
	ended bool
	err   api.Errno
}

// stop is the panic that ends an f.
type stop struct {
	of  *run // nil: the innermost one
	err api.Errno
}

// Refuse ends the f that calls it with an error.
func Refuse(e api.Errno) {
	if e == api.OK {
		e = api.ErrForm
	}
	panic(stop{err: e})
}

// call f, and keep the error that ended it.
func (r *run) call(f func()) {
	r.self = r
	defer func() {
		r.ended = true
		switch x := recover().(type) {
		case nil:
		case stop:
			// An f within another f may use what was passed to the outer one.
			if x.of != nil && x.of != r {
				panic(x)
			}
			r.note(x.err)
		default:
			panic(x)
		}
	}()
	f()
}

// check that this was passed to an f.
func (r *run) check() {
	if r.self != r {
		panic("pack: a Writer or Reader that was not passed to an f")
	}
}

// fail ends f; once f has ended, there is nothing to end.
func (r *run) fail(e api.Errno) {
	if r.ended {
		return
	}
	r.note(e)
	panic(stop{of: r, err: e})
}

// note the first error: it counts even if f recovers from the panic.
func (r *run) note(e api.Errno) {
	if r.err == api.OK {
		r.err = e
	}
}
