// Package fault is layer 1: see shared/doc/01-fault.md.
package fault

import (
	"errors"
	"strconv"
	"strings"

	"penumbra/api"
)

// Fault is a code, a line, and an error that it wraps.
type Fault struct {
	Code api.Errno
	Line int
	Err  error
}

// Error tells the codes and lines of the fault and of what it wraps.
// Texts of other errors are left out: their methods might panic, or lead back here for ever.
func (f Fault) Error() string {
	var texts []string
	look(f, mostGathered).each(func(s sight) bool {
		if inner, ok := faultOf(s.err); ok {
			texts = append(texts, inner.text())
		} else if code, ok := codeItself(s.err); ok {
			texts = append(texts, code.Error())
		}
		return true
	})
	return strings.Join(texts, ": ")
}

func (f Fault) text() string {
	if f.Line == 0 {
		return f.Code.Error()
	}
	return f.Code.Error() + " in line " + strconv.Itoa(f.Line)
}

// Unwrap tells what it wraps.
func (f Fault) Unwrap() error { return f.Err }

// Is tells whether target is the fault's code; errors.Is asks by it.
func (f Fault) Is(target error) bool {
	code, ok := codeItself(target)
	return ok && code == f.Code
}

// New makes a fault that wraps nothing; nil, if the code is OK.
func New(code api.Errno, line int) error {
	if code == api.OK {
		return nil
	}
	return Fault{Code: code, Line: line}
}

// Wrap makes a fault that wraps an error: nil of nil, and the error itself, if the code is OK.
func Wrap(err error, code api.Errno, line int) error {
	if err == nil || code == api.OK {
		return err
	}
	return Fault{Code: code, Line: line, Err: err}
}

// Is tells whether an error, or one that it wraps, is a fault of that code, or that code itself.
func Is(err error, code api.Errno) bool {
	if err == nil {
		return false
	}
	return errors.Is(look(err, mostAsked), code)
}

// Code tells the code of the first fault, else a code itself; OK of nil, ErrArg where there is neither.
func Code(err error) api.Errno {
	if err == nil {
		return api.OK
	}
	var first Fault
	if errors.As(look(err, mostAsked), &first) {
		return first.Code
	}
	var code api.Errno
	if errors.As(look(err, mostAsked), &code) {
		return code
	}
	return api.ErrArg
}

// Line tells the first line that is not 0, from the outermost fault on.
func Line(err error) int {
	line := 0
	look(err, mostAsked).each(func(s sight) bool {
		if f, ok := faultOf(s.err); ok {
			line = f.Line
		}
		return line == 0
	})
	return line
}

// Chain tells the codes of all faults, from the outermost on, and behind them a code itself.
func Chain(err error) []api.Errno {
	var codes []api.Errno
	look(err, mostGathered).each(func(s sight) bool {
		if f, ok := faultOf(s.err); ok {
			codes = append(codes, f.Code)
		} else if code, ok := codeItself(s.err); ok {
			codes = append(codes, code)
		}
		return true
	})
	return codes
}

// Depth tells how many errors there are, one within the other.
func Depth(err error) int {
	deepest := 0
	look(err, mostGathered).each(func(s sight) bool {
		deepest = max(deepest, s.depth)
		return true
	})
	return deepest
}
