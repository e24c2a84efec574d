package fault

import (
	"errors"
	"fmt"
	"math"
	"slices"
	"strings"
	"testing"

	"penumbra/api"
)

// around is an error of somebody else that wraps another one.
type around struct{ err error }

func (a around) Error() string { return "around" }
func (a around) Unwrap() error { return a.err }

// endless wraps itself.
type endless struct{}

func (e endless) Error() string { return "endless" }
func (e endless) Unwrap() error { return e }

// list is an error that may not be compared, and wraps several, nil among them.
type list []error

func (l list) Error() string   { return "list" }
func (l list) Unwrap() []error { return l }

// broken panics whatever it is asked.
type broken struct{}

func (b broken) Error() string        { panic("Error") }
func (b broken) Unwrap() error        { panic("Unwrap") }
func (b broken) Is(target error) bool { panic("Is") }
func (b broken) As(target any) bool   { panic("As") }

// nested is inner within n errors: faults of ErrBound, line 0.
func nested(inner error, n int) error {
	for range n {
		inner = Wrap(inner, api.ErrBound, 0)
	}
	return inner
}

// ring is a fault that is within itself, by a pointer.
func ring() *Fault {
	f := &Fault{Code: api.ErrSum}
	f.Err = around{f}
	return f
}

func TestNew(t *testing.T) {
	for code := api.ErrNil; code <= api.ErrLine; code++ {
		if got := New(code, 3); got != error(Fault{Code: code, Line: 3}) {
			t.Errorf("New(%d, 3) = %#v", code, got)
		}
	}
	for _, line := range []int{0, 1, -1, math.MaxInt, math.MinInt} {
		if got := New(api.ErrForm, line); got != error(Fault{Code: api.ErrForm, Line: line}) {
			t.Errorf("New(ErrForm, %d) = %#v", line, got)
		}
		if got := New(api.OK, line); got != nil {
			t.Errorf("New(OK, %d) = %#v", line, got)
		}
	}
	for _, code := range []api.Errno{-1, 16, math.MaxInt, math.MinInt} {
		if got := New(code, 1); got != error(Fault{Code: code, Line: 1}) {
			t.Errorf("New(%d, 1) = %#v", int(code), got)
		}
	}
	if errors.Unwrap(New(api.ErrForm, 3)) != nil {
		t.Error("a new fault wraps something")
	}
}

func TestWrap(t *testing.T) {
	other := errors.New("other")
	for _, err := range []error{other, New(api.ErrForm, 3), api.ErrForm, api.OK} {
		got := Wrap(err, api.ErrSyntax, 7)
		if got != error(Fault{Code: api.ErrSyntax, Line: 7, Err: err}) {
			t.Errorf("Wrap(%v) = %#v", err, got)
		}
		if errors.Unwrap(got) != err {
			t.Errorf("Wrap(%v) wraps %v", err, errors.Unwrap(got))
		}
		if !errors.Is(got, err) {
			t.Errorf("Wrap(%v) is not what it wraps", err)
		}
		if got := Wrap(err, api.OK, 7); got != err {
			t.Errorf("Wrap(%v, OK) = %#v", err, got)
		}
	}
	for _, code := range []api.Errno{api.OK, api.ErrSyntax, -1} {
		if got := Wrap(nil, code, 7); got != nil {
			t.Errorf("Wrap(nil, %d) = %#v", int(code), got)
		}
	}
}

func TestFaultIsItsCode(t *testing.T) {
	f := Fault{Code: api.ErrForm, Line: 3, Err: New(api.ErrSum, 0)}
	for code := api.OK; code <= api.ErrLine; code++ {
		if f.Is(code) != (code == api.ErrForm) {
			t.Errorf("f.Is(%d) = %v", code, f.Is(code))
		}
		if errors.Is(f, code) != (code == api.ErrForm || code == api.ErrSum) {
			t.Errorf("errors.Is(f, %d) = %v", code, errors.Is(f, code))
		}
	}
	for _, target := range []error{nil, errors.New("other"), broken{}, list{nil}, New(api.ErrBig, 3), (*Fault)(nil)} {
		if f.Is(target) {
			t.Errorf("f.Is(%T)", target)
		}
	}
}

// asked is an error, the codes that it is, its Code and its Line.
type asked struct {
	name string
	err  error
	is   []api.Errno
	code api.Errno
	line int
}

func askedErrors() []asked {
	other := errors.New("other")
	form := New(api.ErrForm, 3)
	var none *Fault
	return []asked{
		{"nil", nil, nil, api.OK, 0},
		{"a fault", form, []api.Errno{api.ErrForm}, api.ErrForm, 3},
		{"a line below 0", New(api.ErrForm, -3), []api.Errno{api.ErrForm}, api.ErrForm, -3},
		{"example 1", Wrap(form, api.ErrSyntax, 0), []api.Errno{api.ErrForm, api.ErrSyntax}, api.ErrSyntax, 3},
		{"the outer line first", Wrap(form, api.ErrSyntax, 9), []api.Errno{api.ErrForm, api.ErrSyntax}, api.ErrSyntax, 9},
		{"no line", Wrap(New(api.ErrBig, 0), api.ErrSyntax, 0), []api.Errno{api.ErrBig, api.ErrSyntax}, api.ErrSyntax, 0},
		{"a code itself", api.ErrZero, []api.Errno{api.ErrZero}, api.ErrZero, 0},
		{"the code OK itself", api.OK, []api.Errno{api.OK}, api.OK, 0},
		{"a code within a fault", Wrap(api.ErrZero, api.ErrScene, 2), []api.Errno{api.ErrZero, api.ErrScene}, api.ErrScene, 2},
		{"a fault without a code", Fault{Line: 4}, []api.Errno{api.OK}, api.OK, 4},
		{"without any", other, nil, api.ErrArg, 0},
		{"without any, wrapped by another", around{other}, nil, api.ErrArg, 0},
		{"without any, within a fault", Wrap(other, api.ErrNone, 5), []api.Errno{api.ErrNone}, api.ErrNone, 5},
		{"a fault within another error", around{form}, []api.Errno{api.ErrForm}, api.ErrForm, 3},
		{"a fault within a text", fmt.Errorf("text: %w", form), []api.Errno{api.ErrForm}, api.ErrForm, 3},
		{"a code within another error", around{api.ErrZero}, []api.Errno{api.ErrZero}, api.ErrZero, 0},
		{"another error between", Wrap(around{form}, api.ErrSyntax, 0), []api.Errno{api.ErrForm, api.ErrSyntax}, api.ErrSyntax, 3},
		{"a pointer to a fault", &Fault{Code: api.ErrSum, Line: 6, Err: form}, []api.Errno{api.ErrSum, api.ErrForm}, api.ErrSum, 6},
		{"several", errors.Join(other, New(api.ErrBig, 0), form), []api.Errno{api.ErrBig, api.ErrForm}, api.ErrBig, 3},
		{"a fault ahead of a code", list{nil, api.ErrZero, form}, []api.Errno{api.ErrZero, api.ErrForm}, api.ErrForm, 3},
		{"a fault that wraps what may not be compared", Wrap(list{form}, api.ErrSum, 0), []api.Errno{api.ErrSum, api.ErrForm}, api.ErrSum, 3},
		{"far within", nested(form, 1000), []api.Errno{api.ErrBound, api.ErrForm}, api.ErrBound, 3},
		{"endless", endless{}, nil, api.ErrArg, 0},
		{"endless within a fault", Wrap(endless{}, api.ErrSum, 0), []api.Errno{api.ErrSum}, api.ErrSum, 0},
		{"a ring", ring(), []api.Errno{api.ErrSum}, api.ErrSum, 0},
		{"broken", broken{}, nil, api.ErrArg, 0},
		{"broken within a fault", Wrap(broken{}, api.ErrSum, 8), []api.Errno{api.ErrSum}, api.ErrSum, 8},
		{"no fault behind a pointer", none, nil, api.ErrArg, 0},
	}
}

func TestIs(t *testing.T) {
	for _, a := range askedErrors() {
		for code := api.Errno(-1); code <= api.ErrLine+1; code++ {
			if got := Is(a.err, code); got != slices.Contains(a.is, code) {
				t.Errorf("%s: Is %d = %v", a.name, int(code), got)
			}
		}
	}
	wide := make(list, 1<<17)
	wide[len(wide)-1] = New(api.ErrForm, 3)
	if !Is(wide, api.ErrForm) || Is(wide, api.ErrSum) {
		t.Error("the last one of many")
	}
}

func TestCode(t *testing.T) {
	for _, a := range askedErrors() {
		if got := Code(a.err); got != a.code {
			t.Errorf("%s: Code = %d, want %d", a.name, int(got), int(a.code))
		}
	}
}

func TestLine(t *testing.T) {
	for _, a := range askedErrors() {
		if got := Line(a.err); got != a.line {
			t.Errorf("%s: Line = %d, want %d", a.name, got, a.line)
		}
	}
}

// bounds is n times ErrBound, and what is behind it.
func bounds(n int, behind ...api.Errno) []api.Errno {
	return append(slices.Repeat([]api.Errno{api.ErrBound}, n), behind...)
}

func TestChainAndDepth(t *testing.T) {
	other := errors.New("other")
	form := New(api.ErrForm, 3)
	cases := []struct {
		name  string
		err   error
		chain []api.Errno
		depth int
	}{
		{"nil", nil, nil, 0},
		{"a fault", form, []api.Errno{api.ErrForm}, 1},
		{"two", Wrap(form, api.ErrSyntax, 0), []api.Errno{api.ErrSyntax, api.ErrForm}, 2},
		{"twice the same", Wrap(form, api.ErrForm, 3), []api.Errno{api.ErrForm, api.ErrForm}, 2},
		{"a code itself", api.ErrZero, []api.Errno{api.ErrZero}, 1},
		{"the code OK itself", api.OK, []api.Errno{api.OK}, 1},
		{"a code innermost", Wrap(api.ErrZero, api.ErrScene, 2), []api.Errno{api.ErrScene, api.ErrZero}, 2},
		{"without any", other, nil, 1},
		{"another error innermost", Wrap(other, api.ErrScene, 2), []api.Errno{api.ErrScene}, 2},
		{"another error outermost", around{form}, []api.Errno{api.ErrForm}, 2},
		{"another error between", Wrap(around{api.ErrZero}, api.ErrScene, 2), []api.Errno{api.ErrScene, api.ErrZero}, 3},
		{"another error around nothing", around{nil}, nil, 1},
		{"several", list{form, nil, Wrap(api.ErrZero, api.ErrSum, 0)}, []api.Errno{api.ErrForm, api.ErrSum, api.ErrZero}, 3},
		{"63", nested(form, 62), bounds(62, api.ErrForm), 63},
		{"64", nested(form, 63), bounds(63, api.ErrForm), 64},
		{"65", nested(form, 64), bounds(64), 64},
		{"a code as the 64th", nested(api.ErrZero, 63), bounds(63, api.ErrZero), 64},
		{"a code as the 65th", nested(api.ErrZero, 64), bounds(64), 64},
		{"1000", nested(form, 1000), bounds(64), 64},
		{"more than 64 beside each other", list(slices.Repeat([]error{api.ErrBound}, 100)), bounds(63), 2},
		{"behind many nils", append(make(list, 100), form), []api.Errno{api.ErrForm}, 2},
		{"endless", endless{}, nil, 64},
		{"endless within a fault", Wrap(endless{}, api.ErrBound, 0), bounds(1), 64},
		{"a ring", ring(), slices.Repeat([]api.Errno{api.ErrSum}, 32), 64},
		{"broken within a fault", Wrap(broken{}, api.ErrBound, 0), bounds(1), 2},
	}
	for _, c := range cases {
		if got := Chain(c.err); !slices.Equal(got, c.chain) {
			t.Errorf("%s: Chain = %v, want %v", c.name, got, c.chain)
		}
		if got := Depth(c.err); got != c.depth {
			t.Errorf("%s: Depth = %d, want %d", c.name, got, c.depth)
		}
	}
}

func TestChainIsNewMemory(t *testing.T) {
	err := Wrap(New(api.ErrForm, 3), api.ErrSyntax, 0)
	Chain(err)[0] = api.ErrBig
	if got := Chain(err); !slices.Equal(got, []api.Errno{api.ErrSyntax, api.ErrForm}) {
		t.Error(got)
	}
}

func TestHandedInIsKept(t *testing.T) {
	several := list{nil, api.ErrZero, nil, New(api.ErrForm, 3)}
	before := slices.Clone(several)
	err := Wrap(several, api.ErrSum, 0)
	if !Is(err, api.ErrForm) || Code(err) != api.ErrSum || Line(err) != 3 || Depth(err) != 3 || len(Chain(err)) != 3 {
		t.Error("what is within several errors is not found")
	}
	if !slices.Equal(several, before) {
		t.Error("a list that an error wraps was changed")
	}
}

func TestError(t *testing.T) {
	for code := api.Errno(-1); code <= api.ErrLine+1; code++ {
		for _, line := range []int{0, 3, math.MinInt} {
			if (Fault{Code: code, Line: line}).Error() == "" {
				t.Errorf("code %d, line %d: no text", int(code), line)
			}
		}
	}
	for _, err := range []error{nil, errors.New(""), broken{}, endless{}, list{nil}, ring(), (*Fault)(nil), nested(api.ErrSum, 1000)} {
		if (Fault{Err: err}).Error() == "" {
			t.Errorf("around %T: no text", err)
		}
	}
	if ring().Error() == "" {
		t.Error("a ring has no text")
	}
}

func TestErrorTellsCodesAndLines(t *testing.T) {
	text := Wrap(Wrap(api.ErrZero, api.ErrForm, 37), api.ErrSyntax, 0).Error()
	for _, part := range []string{api.ErrSyntax.Error(), api.ErrForm.Error(), "37", api.ErrZero.Error()} {
		if !strings.Contains(text, part) {
			t.Errorf("%q lacks %q", text, part)
		}
	}
}
