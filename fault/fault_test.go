package fault

import (
	"errors"
	"fmt"
	"math"
	"slices"
	"strconv"
	"strings"
	"testing"

	"keyway/api"
)

// nested is n faults within one another; the numbers are 100 for the last one, and on.
func nested(n int) error {
	var err error
	for i := n - 1; i >= 0; i-- {
		err = New("at"+strconv.Itoa(i), api.Errno(100+i), err)
	}
	return err
}

// asFault is the fault that New made.
func asFault(t *testing.T, err error) *Fault {
	t.Helper()
	f, is := err.(*Fault)
	if !is || f == nil {
		t.Fatalf("%v is no fault", err)
	}
	return f
}

// stubborn is an error of another kind, which can't be held against others.
type stubborn struct{ parts []string }

func (stubborn) Error() string { return "stubborn" }

func TestNewOfOKIsNone(t *testing.T) {
	for _, from := range []error{nil, errors.New("x"), New("open", 41, nil)} {
		if err := New("run", api.OK, from); err != nil {
			t.Errorf("New of OK from %v = %v", from, err)
		}
	}
}

func TestNewHasWhatItWasGiven(t *testing.T) {
	inner := New("open", api.ErrTorn, nil)
	for _, c := range []struct {
		where string
		code  api.Errno
		from  error
	}{
		{"run", 40, nil},
		{"run", 40, inner},
		{"", 1, errors.New("x")},
		{"run", -3, nil},
		{"a b: c\x00", math.MaxInt, inner},
		{"run", math.MinInt, inner},
	} {
		f := asFault(t, New(c.where, c.code, c.from))
		if f.Where != c.where || f.Code != c.code || f.From != c.from {
			t.Errorf("New(%q, %d, %v) = %+v", c.where, c.code, c.from, *f)
		}
	}
}

func TestNewIsOneMoreEachTime(t *testing.T) {
	a, b := asFault(t, New("run", 40, nil)), asFault(t, New("run", 40, nil))
	a.Where, a.Code = "else", 7
	if b.Error() != "run 40" {
		t.Errorf("a change of one fault is seen in another: %q", b.Error())
	}
}

func TestErrorOfOneFault(t *testing.T) {
	for _, c := range []struct {
		where string
		code  api.Errno
		want  string
	}{
		{"run", 40, "run 40"},
		{"run", 1, "run 1"},
		{"", 7, " 7"},
		{"a b: c", 1000000, "a b: c 1000000"},
		{"run", -1, "run 0"},
		{"run", -40, "run 0"},
		{"run", math.MinInt, "run 0"},
		{"run", math.MaxInt, "run " + strconv.Itoa(math.MaxInt)},
		{"caf\u00e9\xff\x00", 2, "caf\u00e9\xff\x00 2"},
	} {
		if got := New(c.where, c.code, nil).Error(); got != c.want {
			t.Errorf("Error of %q, %d = %q, not %q", c.where, c.code, got, c.want)
		}
	}
	if got := (&Fault{Where: "run"}).Error(); got != "run 0" {
		t.Errorf("Error of a fault of OK = %q", got)
	}
}

// The chapter's example, and more of its kind.
func TestErrorOfFaultsThatCameOfFaults(t *testing.T) {
	if got := New("run", 40, New("open", 41, nil)).Error(); got != "run 40: open 41" {
		t.Errorf("the example: %q", got)
	}
	if got := New("a", 1, New("b", -2, New("", 3, nil))).Error(); got != "a 1: b 0:  3" {
		t.Errorf("three faults: %q", got)
	}
}

func TestErrorTellsMoreThanMostChain(t *testing.T) {
	var want []string
	for i := range 3 * api.MostChain {
		want = append(want, fmt.Sprintf("at%d %d", i, 100+i))
	}
	if got := nested(3 * api.MostChain).Error(); got != strings.Join(want, ": ") {
		t.Errorf("many faults: %q", got)
	}
}

func TestErrorOfWhatCameOfNoFault(t *testing.T) {
	for _, from := range []error{errors.New("x"), stubborn{}, &stubborn{}, errors.Join(errors.New("x")), (*Fault)(nil)} {
		if got := New("run", 40, from).Error(); got != "run 40" {
			t.Errorf("Error of what came of %T = %q", from, got)
		}
	}
}

func TestErrorOfWhatCameOfAFaultByAnotherError(t *testing.T) {
	err := New("run", 40, fmt.Errorf("wrapped: %w", New("open", 41, nil)))
	if got := err.Error(); got != "run 40: open 41" {
		t.Errorf("Error = %q", got)
	}
}

func TestUnwrap(t *testing.T) {
	inner, other := New("open", 41, nil), errors.New("x")
	for _, from := range []error{nil, inner, other, (*Fault)(nil)} {
		if got := asFault(t, New("run", 40, from)).Unwrap(); got != from {
			t.Errorf("Unwrap = %v, not %v", got, from)
		}
		if got := errors.Unwrap(New("run", 40, from)); got != from {
			t.Errorf("errors.Unwrap = %v, not %v", got, from)
		}
	}
}

func TestIs(t *testing.T) {
	inner := New("open", 41, nil)
	f := asFault(t, New("run", 40, inner))
	for _, c := range []struct {
		name   string
		target error
		want   bool
	}{
		{"the same number", New("", 40, nil), true},
		{"another number", New("", 42, nil), false},
		{"the number that it came of", New("", 41, nil), false},
		{"no number", &Fault{}, false},
		{"with a place", New("run", 40, nil), false},
		{"with what it came of", New("", 40, inner), false},
		{"with both", New("run", 40, inner), false},
		{"itself", f, false},
		{"an error that is no fault", errors.New("run 40"), false},
		{"one that can't be compared", stubborn{}, false},
		{"an error that wraps such a fault", fmt.Errorf("%w", New("", 40, nil)), false},
		{"none", nil, false},
		{"a nil fault", (*Fault)(nil), false},
	} {
		if got := f.Is(c.target); got != c.want {
			t.Errorf("Is of %s = %v", c.name, got)
		}
	}
}

func TestIsOfNumbersThatAreOdd(t *testing.T) {
	if !(&Fault{Where: "x"}).Is(&Fault{}) {
		t.Error("two faults of OK are not of the same number")
	}
	if !(&Fault{Where: "x", Code: -5}).Is(&Fault{Code: -5}) || (&Fault{Code: -5}).Is(&Fault{Code: -6}) {
		t.Error("numbers below 0 are not held against each other")
	}
}

func TestANilFault(t *testing.T) {
	var f *Fault
	if f.Error() != "" || f.Unwrap() != nil {
		t.Errorf("a nil fault says %q and came of %v", f.Error(), f.Unwrap())
	}
	for _, target := range []error{nil, f, &Fault{}, New("", 40, nil), errors.New("x")} {
		if f.Is(target) {
			t.Errorf("a nil fault is %v", target)
		}
	}
	if Has(f, 40) || Has(f, api.OK) || Code(f) != api.OK || len(Chain(f)) != 0 || Text(f) != "" || First(f) != api.OK {
		t.Error("a nil fault is more than none")
	}
}

func TestFaultsAreGoneThroughByErrors(t *testing.T) {
	err := New("run", 40, New("open", 41, errors.ErrUnsupported))
	if !errors.Is(err, &Fault{Code: 41}) || !errors.Is(err, errors.ErrUnsupported) || errors.Is(err, &Fault{Code: 42}) {
		t.Error("errors.Is doesn't go through faults")
	}
	var f *Fault
	if !errors.As(fmt.Errorf("wrapped: %w", err), &f) || f.Code != 40 {
		t.Error("errors.As doesn't find the fault")
	}
}

func TestHas(t *testing.T) {
	inner := New("read", 42, errors.New("x"))
	err := New("run", 40, New("open", 41, inner))
	for _, code := range []api.Errno{40, 41, 42} {
		if !Has(err, code) {
			t.Errorf("%v has no %d", err, code)
		}
	}
	for _, code := range []api.Errno{39, 43, -40, api.OK, api.ErrInput, math.MaxInt, math.MinInt} {
		if Has(err, code) {
			t.Errorf("%v has %d", err, code)
		}
	}
	if Has(inner, 40) || Has(inner, 41) || !Has(inner, 42) {
		t.Error("what a fault came of has the fault's number")
	}
}

func TestHasOfOKNever(t *testing.T) {
	for _, err := range []error{nil, errors.New("x"), New("run", 40, nil), &Fault{}, &Fault{Where: "x"}, New("run", 40, &Fault{})} {
		if Has(err, api.OK) {
			t.Errorf("%v has OK", err)
		}
	}
}

func TestHasOfWhatIsNoFault(t *testing.T) {
	for _, err := range []error{nil, errors.New("x 40"), stubborn{}, fmt.Errorf("%w", errors.New("x"))} {
		if Has(err, 40) || Has(err, api.ErrInput) {
			t.Errorf("%v has a number", err)
		}
	}
}

func TestHasOfNumbersBelowZero(t *testing.T) {
	if !Has(New("run", 40, New("open", -1, nil)), -1) || Has(New("run", -1, nil), -2) {
		t.Error("numbers below 0")
	}
}

func TestHasGoesOnBehindMostChain(t *testing.T) {
	n := 3 * api.MostChain
	err := nested(n)
	if !Has(err, api.Errno(100+n-1)) || Has(err, api.Errno(100+n)) {
		t.Error("the last fault of many")
	}
}

func TestHasThroughOtherErrors(t *testing.T) {
	wrapped := fmt.Errorf("wrapped: %w", New("open", 41, nil))
	joined := errors.Join(New("a", 50, nil), New("b", 51, New("c", 52, nil)))
	err := New("run", 40, wrapped)
	if !Has(err, 41) || !Has(wrapped, 41) || Has(wrapped, 40) {
		t.Error("an error of another kind on the way")
	}
	for _, code := range []api.Errno{50, 51, 52} {
		if !Has(joined, code) || !Has(New("run", 40, joined), code) {
			t.Errorf("joined errors have no %d", code)
		}
	}
}

func TestCode(t *testing.T) {
	for _, c := range []struct {
		err  error
		want api.Errno
	}{
		{nil, api.OK},
		{New("run", 40, nil), 40},
		{New("run", 40, New("open", 41, nil)), 40},
		{New("run", -7, New("open", 41, nil)), -7},
		{New("run", math.MaxInt, nil), math.MaxInt},
		{&Fault{Where: "x"}, api.OK},
		{errors.New("x"), api.ErrInput},
		{stubborn{}, api.ErrInput},
		{fmt.Errorf("wrapped: %w", New("run", 40, nil)), api.ErrInput},
	} {
		if got := Code(c.err); got != c.want {
			t.Errorf("Code(%v) = %d, not %d", c.err, got, c.want)
		}
	}
}

func TestChain(t *testing.T) {
	for _, c := range []struct {
		err  error
		want []api.Errno
	}{
		{nil, nil},
		{New("run", 40, nil), []api.Errno{40}},
		{New("run", 40, New("open", 41, nil)), []api.Errno{40, 41}},
		{New("a", 3, New("b", -1, New("c", 3, nil))), []api.Errno{3, -1, 3}},
		{New("a", 3, &Fault{}), []api.Errno{3, 0}},
		{New("run", 40, errors.New("x")), []api.Errno{40}},
		{New("run", 40, (*Fault)(nil)), []api.Errno{40}},
		{New("run", 40, fmt.Errorf("wrapped: %w", New("open", 41, nil))), []api.Errno{40, 41}},
		{errors.New("x"), nil},
	} {
		if got := Chain(c.err); !slices.Equal(got, c.want) {
			t.Errorf("Chain(%v) = %v, not %v", c.err, got, c.want)
		}
	}
}

func TestChainIsMostChainAtMost(t *testing.T) {
	for _, n := range []int{api.MostChain - 1, api.MostChain, api.MostChain + 1, 5 * api.MostChain} {
		var want []api.Errno
		for i := range min(n, api.MostChain) {
			want = append(want, api.Errno(100+i))
		}
		if got := Chain(nested(n)); !slices.Equal(got, want) {
			t.Errorf("Chain of %d faults = %v", n, got)
		}
	}
}

func TestChainIsTheCallersOwn(t *testing.T) {
	err := New("run", 40, New("open", 41, nil))
	first := Chain(err)
	first[0], first[1] = 7, 8
	if got := Chain(err); !slices.Equal(got, []api.Errno{40, 41}) || Text(err) != "run 40: open 41" {
		t.Errorf("a change of an answer is seen later: %v, %v", got, err)
	}
}

func TestText(t *testing.T) {
	for _, c := range []struct {
		err  error
		want string
	}{
		{nil, ""},
		{New("run", 40, nil), "run 40"},
		{New("run", 40, New("open", 41, nil)), "run 40: open 41"},
		{New("a", -1, New("b", 2, New("c", 3, errors.New("x")))), "a 0: b 2: c 3"},
		{errors.New("x"), ""},
		{stubborn{}, ""},
	} {
		if got := Text(c.err); got != c.want {
			t.Errorf("Text(%v) = %q, not %q", c.err, got, c.want)
		}
	}
	many := nested(2 * api.MostChain)
	if Text(many) != many.Error() || !strings.HasSuffix(Text(many), ": at127 227") {
		t.Errorf("Text of many = %q", Text(many))
	}
}

func TestFirst(t *testing.T) {
	for _, c := range []struct {
		err  error
		want api.Errno
	}{
		{nil, api.OK},
		{New("run", 40, nil), 40},
		{New("run", 40, New("open", 41, nil)), 41},
		{New("a", 1, New("b", 2, New("c", -3, nil))), -3},
		{New("run", 40, errors.New("x")), 40},
		{errors.New("x"), api.OK},
		{nested(api.MostChain - 1), 100 + api.MostChain - 2},
		{nested(api.MostChain), 100 + api.MostChain - 1},
		{nested(api.MostChain + 1), 100 + api.MostChain - 1},
		{nested(5 * api.MostChain), 100 + api.MostChain - 1},
	} {
		if got := First(c.err); got != c.want {
			t.Errorf("First(%v) = %d, not %d", c.err, got, c.want)
		}
	}
}

// As many faults within one another as the document's bounds allow.
func TestTheDeepestFaults(t *testing.T) {
	err := nested(1 << 16)
	last := api.Errno(100 + 1<<16 - 1)
	if !Has(err, last) || Has(err, last+1) || !strings.HasSuffix(Text(err), ": at65535 65635") || Code(err) != 100 {
		t.Error("the deepest faults")
	}
}

// A fault made by hand can be a ring: calls end all the same.
func TestAFaultThatCameOfItselfEnds(t *testing.T) {
	ring := &Fault{Where: "a", Code: 40}
	ring.From = New("b", 41, ring)
	if !Has(ring, 40) || !Has(ring, 41) || Has(ring, 42) || Code(ring) != 40 || !strings.HasPrefix(Text(ring), "a 40: b 41: a 40: ") {
		t.Error("a ring of two faults")
	}
	if got := Chain(ring); len(got) != api.MostChain || First(ring) != 41 {
		t.Errorf("Chain of a ring = %v", got)
	}
}

func TestTheSameCallsAnswerTheSame(t *testing.T) {
	for range 3 {
		err := New("run", 40, New("open", 41, nil))
		if err.Error() != "run 40: open 41" || Code(err) != 40 || First(err) != 41 || !Has(err, 41) || Has(err, 42) {
			t.Fatal("a call answers otherwise the next time")
		}
	}
}
