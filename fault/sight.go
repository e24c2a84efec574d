package fault

import "penumbra/api"

const (
	mostGathered = 64        // errors that Chain, Depth and a text look at
	mostAsked    = 1<<31 - 1 // errors that a question looks at: the document's bound of items
	mostWithin   = 1 << 16   // errors one within the other: the document's bound of parts
)

// sight is an error as this package looks at it. errors.Is and errors.As go through sights
// instead of the errors themselves, so that they end where an error wraps itself, and no
// foreign method but Unwrap is called, whose panic is caught.
type sight struct {
	err   error
	depth int
	left  *int
}

// look begins with err as the outermost one, and goes on to at most so many errors in all.
func look(err error, most int) sight {
	left := most - 1
	return sight{err: err, depth: 1, left: &left}
}

// Error makes a sight an error; nobody is told it.
func (s sight) Error() string { return "sight" }

// Is asks this error alone: errors.Is asks the ones within it.
func (s sight) Is(target error) bool {
	if f, ok := faultOf(s.err); ok {
		return f.Is(target)
	}
	code, ok := codeItself(s.err)
	return ok && error(code) == target
}

// As asks this error alone: errors.As asks the ones within it.
func (s sight) As(target any) bool {
	switch t := target.(type) {
	case *Fault:
		if f, ok := faultOf(s.err); ok {
			*t = f
			return true
		}
	case *api.Errno:
		if code, ok := codeItself(s.err); ok {
			*t = code
			return true
		}
	}
	return false
}

// Unwrap tells the sights of what the error wraps, for errors.Is and errors.As.
func (s sight) Unwrap() []error {
	var within []error
	for _, inner := range s.within() {
		within = append(within, inner)
	}
	return within
}

func (s sight) within() []sight {
	if s.depth == mostWithin {
		return nil
	}
	var within []sight
	for _, err := range wrapped(s.err) {
		if *s.left == 0 {
			break
		}
		*s.left--
		within = append(within, sight{err: err, depth: s.depth + 1, left: s.left})
	}
	return within
}

// each tells of the error and of all within it, from the outermost on, till tell answers false.
func (s sight) each(tell func(sight) bool) bool {
	if s.err == nil {
		return true
	}
	if !tell(s) {
		return false
	}
	for _, inner := range s.within() {
		if !inner.each(tell) {
			return false
		}
	}
	return true
}

// wrapped tells what an error wraps: nothing, if its method panics.
func wrapped(err error) (within []error) {
	defer func() {
		if recover() != nil {
			within = nil
		}
	}()
	switch e := err.(type) {
	case interface{ Unwrap() error }:
		within = withoutNil(e.Unwrap())
	case interface{ Unwrap() []error }:
		within = withoutNil(e.Unwrap()...)
	}
	return within
}

func withoutNil(errs ...error) []error {
	var there []error
	for _, err := range errs {
		if err != nil {
			there = append(there, err)
		}
	}
	return there
}

// faultOf tells the fault that an error is. One behind a pointer counts too, as it does for errors.Is.
func faultOf(err error) (Fault, bool) {
	switch e := err.(type) {
	case Fault:
		return e, true
	case *Fault:
		if e != nil {
			return *e, true
		}
	}
	return Fault{}, false
}

// codeItself tells the code that an error is, without any fault around it.
func codeItself(err error) (api.Errno, bool) {
	switch e := err.(type) {
	case api.Errno:
		return e, true
	}
	return api.OK, false
}
