package guard

import (
	"errors"
	"math"
	"runtime"
	"slices"
	"sync"
	"testing"

	"engross/api"
)

// caught calls f, without a Try, and answers what it panics with.
func caught(f func()) (x any, broke bool) {
	broke = true
	defer func() { x = recover() }()
	f()
	broke = false
	return nil, broke
}

// breaks asks that f panics with a Fault of want.
func breaks(t *testing.T, what string, f func(), want api.Errno) {
	t.Helper()
	x, broke := caught(f)
	got, ok := x.(Fault)
	if !broke || !ok || got != (Fault{Err: want}) {
		t.Errorf("P6.1: %s: panicked %v, with %T %v, want a Fault of %d", what, broke, x, x, want)
	}
}

// quiet asks that f comes back.
func quiet(t *testing.T, what string, f func()) {
	t.Helper()
	if x, broke := caught(f); broke {
		t.Errorf("P6.1: %s panics with %T %v", what, x, x)
	}
}

// tries asks that Try(f) comes back, and answers want.
func tries(t *testing.T, what string, f func(), want api.Errno) {
	t.Helper()
	quiet(t, "Try of "+what, func() {
		if got := Try(f); got != want {
			t.Errorf("P6.1: Try of %s = %d, want %d", what, got, want)
		}
	})
}

func breakOf(e api.Errno) func() { return func() { Break(e) } }

func panicOf(x any) func() { return func() { panic(x) } }

// theErrors are those of the document, all but OK.
func theErrors() []api.Errno {
	return []api.Errno{
		api.ErrForm, api.ErrMore, api.ErrRange, api.ErrFull, api.ErrDown, api.ErrNone,
		api.ErrExists, api.ErrCorrupt, api.ErrBusy, api.ErrBlocked, api.ErrVictim, api.ErrInvalid,
	}
}

// noErrors are numbers that are none of the document's errors.
func noErrors() []api.Errno {
	l := []api.Errno{math.MinInt64, math.MinInt64 + 1, math.MaxInt64, math.MaxInt64 - 1}
	for _, n := range []api.Errno{13, 77, 255, 256, 264, 1<<16 + 4, 1 << 31, 1 << 32, 1<<32 + 8, 1 << 62} {
		l = append(l, n, -n)
	}
	for _, e := range theErrors() {
		l = append(l, -e)
	}
	return l
}

func anyErrors() []api.Errno { return append(theErrors(), noErrors()...) }

func TestBreakOfEveryError(t *testing.T) {
	if n := len(theErrors()); n != int(api.ErrInvalid) {
		t.Fatalf("%d errors are tried", n)
	}
	for _, e := range theErrors() {
		breaks(t, "Break", breakOf(e), e)
	}
}

func TestBreakOfOtherNumbers(t *testing.T) {
	for _, e := range noErrors() {
		breaks(t, "Break", breakOf(e), e)
	}
}

func TestBreakOfOK(t *testing.T) {
	breaks(t, "Break of OK", breakOf(api.OK), api.ErrCorrupt)
	tries(t, "Break of OK", breakOf(api.OK), api.ErrCorrupt)
}

// What stands behind a Break is not done.
func TestBreakDoesNotComeBack(t *testing.T) {
	for _, e := range append(anyErrors(), api.OK) {
		behind := false
		caught(func() {
			Break(e)
			behind = true
		})
		if behind {
			t.Errorf("P6.1: Break(%d) came back", e)
		}
	}
}

func TestCheckOfTrue(t *testing.T) {
	for _, e := range append(anyErrors(), api.OK) {
		behind := 0
		quiet(t, "Check of true", func() {
			Check(true, e)
			behind++
		})
		tries(t, "Check of true", func() {
			Check(true, e)
			behind++
		}, api.OK)
		if behind != 2 {
			t.Errorf("P6.1: behind Check(true, %d) %d of 2 were done", e, behind)
		}
	}
}

func TestCheckOfFalse(t *testing.T) {
	for _, e := range append(anyErrors(), api.OK) {
		want := e
		if e == api.OK {
			want = api.ErrCorrupt
		}
		behind := false
		f := func() {
			Check(false, e)
			behind = true
		}
		breaks(t, "Check of false", f, want)
		tries(t, "Check of false", f, want)
		if behind {
			t.Errorf("P6.1: Check(false, %d) came back", e)
		}
	}
}

// The first Check that does not hold is the one that tells.
func TestChecksOneBehindTheOther(t *testing.T) {
	for first := range 6 {
		reached := 0
		f := func() {
			for i := range 5 {
				reached = i
				Check(i != first, api.Errno(100+i))
			}
		}
		if first == 5 {
			tries(t, "Checks that hold", f, api.OK)
			continue
		}
		tries(t, "Checks", f, api.Errno(100+first))
		if reached != first {
			t.Errorf("P6.1: the Check %d breaks, and %d is reached", first, reached)
		}
	}
}

func TestTryOfWhatComesBack(t *testing.T) {
	calls := 0
	tries(t, "what comes back", func() { calls++ }, api.OK)
	if calls != 1 {
		t.Errorf("P6.1: Try called it %d times", calls)
	}
	tries(t, "nothing", func() {}, api.OK)
	tries(t, "an early return", func() {
		if calls == 1 {
			return
		}
		Break(api.ErrFull)
	}, api.OK)
}

func TestTryOfNil(t *testing.T) {
	tries(t, "nil", nil, api.OK)
	var f func()
	tries(t, "a nil function", f, api.OK)
	tries(t, "a Try of nil", func() { Check(Try(nil) == api.OK, api.ErrNone) }, api.OK)
}

func TestTryOfBreakAtOnce(t *testing.T) {
	for _, e := range anyErrors() {
		calls := 0
		tries(t, "Break", func() {
			calls++
			Break(e)
		}, e)
		if calls != 1 {
			t.Errorf("P6.1: Try called what breaks with %d %d times", e, calls)
		}
	}
}

// down breaks with e, n calls further down.
func down(n int, e api.Errno, back *int) {
	if n == 0 {
		Break(e)
	}
	down(n-1, e, back)
	*back++
}

func TestTryOfBreakDeepDown(t *testing.T) {
	for _, n := range []int{1, 2, 10, 1000, 100000} {
		for _, e := range []api.Errno{api.ErrBusy, api.ErrInvalid, -5} {
			back := 0
			tries(t, "Break deep down", func() { down(n, e, &back) }, e)
			if back != 0 {
				t.Errorf("P6.1: %d of %d calls came back", back, n)
			}
		}
	}
}

// What was done ahead is done, what comes behind is not.
func TestTryOfBreakBehindSteps(t *testing.T) {
	all := []int{0, 1, 2, 3, 4, 5}
	for at := range len(all) + 1 {
		done := []int{}
		want := api.OK
		if at < len(all) {
			want = api.ErrRange
		}
		tries(t, "steps", func() {
			for _, i := range all {
				Check(i != at, api.ErrRange)
				done = append(done, i)
			}
		}, want)
		if !slices.Equal(done, all[:at]) {
			t.Errorf("P6.1: it breaks at the step %d, and %v were done", at, done)
		}
	}
}

// A Fault is known by what it is, not by who panics with it.
func TestTryOfAFaultWithoutBreak(t *testing.T) {
	for _, e := range append(anyErrors(), api.OK) {
		tries(t, "a Fault", panicOf(Fault{Err: e}), e)
	}
}

type sameShape struct{ Err api.Errno }

type renamed Fault

type around struct{ Fault }

type ownError struct{ n int }

func (o *ownError) Error() string { return "own" }

// goesOn asks that x goes on through depth Trys, the same value, and that
// nothing behind them is done.
func goesOn(t *testing.T, x any, depth int) {
	t.Helper()
	f := panicOf(x)
	behind := 0
	for range depth {
		inner := f
		f = func() {
			Try(inner)
			behind++
		}
	}
	got, broke := caught(f)
	if !broke || got != x || behind != 0 {
		t.Errorf("P6.1: %T %v through %d Trys: panicked %v, with %T %v, %d came back", x, x, depth, broke, got, got, behind)
	}
}

func TestOtherPanicsGoOn(t *testing.T) {
	n := 1
	for _, x := range []any{
		"other", "", 0, 1, -1, 4, int64(4), uint8(8), 1.5, math.Inf(1), 'x', true, false, 2i,
		errors.New("other"), &ownError{3}, api.OK, api.ErrFull, api.ErrCorrupt,
		sameShape{api.ErrFull}, renamed{api.ErrFull}, around{Fault{api.ErrFull}},
		&Fault{api.ErrFull}, (*Fault)(nil), (*ownError)(nil), struct{ Err api.Errno }{api.ErrFull},
		[1]Fault{{api.ErrFull}}, struct{}{}, &n, make(chan int),
	} {
		for _, depth := range []int{1, 2, 5} {
			goesOn(t, x, depth)
		}
	}
}

// Values that can't be held against each other go on too: they are the same
// if they share what they are made of.
func TestOtherPanicsOfListsGoOn(t *testing.T) {
	list := []Fault{{api.ErrFull}}
	if got, _ := caught(func() { Try(panicOf(list)) }); !isList(got, list) {
		t.Errorf("P6.1: a list: %T %v", got, got)
	}
	m := map[string]int{"a": 1}
	got, _ := caught(func() { Try(panicOf(m)) })
	if l, ok := got.(map[string]int); !ok || len(l) != 1 {
		t.Errorf("P6.1: a map: %T %v", got, got)
	} else if m["b"] = 2; l["b"] != 2 {
		t.Error("P6.1: another map")
	}
	called := 0
	got, _ = caught(func() { Try(panicOf(func() { called++ })) })
	if f, ok := got.(func()); !ok {
		t.Errorf("P6.1: a function: %T", got)
	} else if f(); called != 1 {
		t.Error("P6.1: another function")
	}
}

func isList(x any, l []Fault) bool {
	got, ok := x.([]Fault)
	return ok && len(got) == len(l) && &got[0] == &l[0]
}

// Go's own panics go on as well, and are the values that they were.
func TestPanicsOfGoGoOn(t *testing.T) {
	var none []int
	var nowhere *Fault
	var noMap map[int]int
	var noFunc func()
	var text any = "text"
	nought := len(none)
	for what, f := range map[string]func(){
		"an index":      func() { none[nought]++ },
		"a piece":       func() { _ = none[nought+1:] },
		"a nil pointer": func() { nowhere.Err++ },
		"a division":    func() { nought = 1 / nought },
		"a nil map":     func() { noMap[1] = 1 },
		"a nil call":    func() { noFunc() },
		"an assertion":  func() { _ = text.(Fault) },
		"a length":      func() { none = make([]int, nought-1) },
		"nil":           func() { panic(nil) },
	} {
		var within any
		seen := func() {
			defer func() {
				within = recover()
				panic(within)
			}()
			f()
		}
		got, broke := caught(func() { Try(seen) })
		if _, ok := got.(runtime.Error); !broke || !ok || got != within {
			t.Errorf("P6.1: %s: panicked %v, with %T %v, it was %T %v", what, broke, got, got, within, within)
		}
	}
}

// What f did ahead of another panic is done, and nothing is told as OK.
func TestOtherPanicsBehindSteps(t *testing.T) {
	done := 0
	answered := false
	got, broke := caught(func() {
		Try(func() {
			done++
			panic("other")
		})
		answered = true
	})
	if !broke || got != "other" || done != 1 || answered {
		t.Errorf("P6.1: panicked %v, with %v, %d done, answered %v", broke, got, done, answered)
	}
}

func TestTryWithinTry(t *testing.T) {
	for _, inner := range theErrors() {
		for _, outer := range theErrors() {
			tries(t, "a Try and a Break", func() {
				tries(t, "the inner one", breakOf(inner), inner)
				Break(outer)
			}, outer)
		}
		behind := false
		tries(t, "a Try alone", func() {
			tries(t, "the inner one", breakOf(inner), inner)
			behind = true
		}, api.OK)
		if !behind {
			t.Errorf("P6.1: the inner Break(%d) ended the outer Try", inner)
		}
		tries(t, "what tells on", func() { Break(Try(breakOf(inner))) }, inner)
	}
}

// Each Try of many tells what its own function broke with.
func TestTrysAtManyDepths(t *testing.T) {
	const depth = 50
	told := []api.Errno{}
	var nest func(n int)
	nest = func(n int) {
		if n < depth {
			told = append(told, Try(func() { nest(n + 1) }))
		}
		Check(n%3 == 0, api.Errno(n))
	}
	tries(t, "a nest", func() { nest(0) }, api.OK)
	for i, e := range told {
		n := depth - i
		want := api.Errno(n)
		if n%3 == 0 {
			want = api.OK
		}
		if e != want {
			t.Errorf("P6.1: the Try at %d told %d, want %d", n, e, want)
		}
	}
	if len(told) != depth {
		t.Errorf("P6.1: %d Trys told something", len(told))
	}
}

func TestDeferredCallsAreDone(t *testing.T) {
	done := []int{}
	note := func(n int) { done = append(done, n) }
	tries(t, "deferred calls", func() {
		defer note(1)
		defer note(2)
		func() {
			defer note(3)
			Break(api.ErrNone)
			note(4)
		}()
		defer note(5)
	}, api.ErrNone)
	if want := []int{3, 2, 1}; !slices.Equal(done, want) {
		t.Errorf("P6.1: done: %v, want %v", done, want)
	}
}

// They are done ahead of the answer, also if another panic goes on.
func TestDeferredCallsOfOtherPanics(t *testing.T) {
	done := 0
	got, _ := caught(func() {
		Try(func() {
			defer func() { done++ }()
			panic("other")
		})
	})
	if got != "other" || done != 1 {
		t.Errorf("P6.1: %v, %d done", got, done)
	}
}

// What a deferred call panics with counts, as it is the last.
func TestDeferredCallsThatPanic(t *testing.T) {
	tries(t, "a Break behind a Break", func() {
		defer Break(api.ErrBusy)
		Break(api.ErrNone)
	}, api.ErrBusy)
	tries(t, "a Break behind another panic", func() {
		defer Break(api.ErrBusy)
		panic("other")
	}, api.ErrBusy)
	tries(t, "a Break behind all", func() { defer Check(false, api.ErrBusy) }, api.ErrBusy)
	got, _ := caught(func() {
		Try(func() {
			defer panic("other")
			Break(api.ErrNone)
		})
	})
	if got != "other" {
		t.Errorf("P6.1: another panic behind a Break: %T %v", got, got)
	}
}

// What f catches on its own is not told.
func TestWhatIsCaughtWithin(t *testing.T) {
	for _, x := range []any{Fault{api.ErrFull}, "other"} {
		tries(t, "what catches", func() {
			if got, _ := caught(panicOf(x)); got != x {
				t.Errorf("P6.1: caught %v, want %v", got, x)
			}
		}, api.OK)
	}
}

// A Try in a deferred call tells of its own function, and leaves the panic
// that is under way.
func TestTryWhileAPanicIsUnderWay(t *testing.T) {
	for _, x := range []any{Fault{api.ErrFull}, "other"} {
		asked := 0
		got, _ := caught(func() {
			defer func() {
				tries(t, "what comes back", func() { asked++ }, api.OK)
				tries(t, "what breaks", breakOf(api.ErrBusy), api.ErrBusy)
				tries(t, "nil", nil, api.OK)
			}()
			panic(x)
		})
		if got != x || asked != 1 {
			t.Errorf("P6.1: %v, %d asked, want %v", got, asked, x)
		}
	}
	tries(t, "a deferred Try", func() {
		defer Try(func() {})
		Break(api.ErrFull)
	}, api.ErrFull)
	tries(t, "a deferred Try that breaks", func() {
		defer Try(breakOf(api.ErrBusy))
		Break(api.ErrFull)
	}, api.ErrFull)
}

// A Try that broke changes nothing for the next one.
func TestTrysOneBehindTheOther(t *testing.T) {
	for range 100 {
		for _, e := range theErrors() {
			tries(t, "Break", breakOf(e), e)
			tries(t, "what comes back", func() {}, api.OK)
			tries(t, "nil", nil, api.OK)
			goesOn(t, "other", 1)
			tries(t, "what comes back", func() { Check(true, e) }, api.OK)
		}
	}
}

// One function may be tried again, and is asked each time.
func TestOneFunctionTriedAgain(t *testing.T) {
	n := 0
	f := func() {
		n++
		Check(n%2 == 0, api.Errno(n))
	}
	for i := 1; i <= 20; i++ {
		want := api.Errno(i)
		if i%2 == 0 {
			want = api.OK
		}
		tries(t, "one function", f, want)
	}
	if n != 20 {
		t.Errorf("P6.1: it was called %d times", n)
	}
}

// Whoever leaves its goroutine leaves it through a Try too.
func TestGoexitGoesOn(t *testing.T) {
	var all sync.WaitGroup
	deferred, behind := false, false
	all.Go(func() {
		Try(func() {
			defer func() { deferred = true }()
			runtime.Goexit()
		})
		behind = true
	})
	all.Wait()
	if !deferred || behind {
		t.Errorf("P6.1: deferred call done %v, came back %v", deferred, behind)
	}
}

// Trys of several goroutines know nothing of each other.
func TestTrysSideBySide(t *testing.T) {
	const many = 8
	var all sync.WaitGroup
	var wrong [many]int
	for i := range many {
		all.Go(func() {
			for n := range 500 {
				e := api.Errno(1 + i*1000 + n)
				if Try(breakOf(e)) != e || Try(func() {}) != api.OK {
					wrong[i]++
				}
			}
		})
	}
	all.Wait()
	for i, n := range wrong {
		if n != 0 {
			t.Errorf("P6.1: %d wrong answers in the goroutine %d", n, i)
		}
	}
}
