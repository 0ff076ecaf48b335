package ckpt_test

import (
	"testing"

	"flume/api"
	"flume/ckpt"
	"flume/record"
)

func TestFirst(t *testing.T) {
	for range 3 {
		if s := ckpt.First(); !isNothing(s) || !record.Stands(s) {
			t.Errorf("P7.1: First is %v; asked is the state of nothing, of place 0", s)
		}
	}
}

func checkLoad(t *testing.T, what string, n int, s api.State, want string) {
	t.Helper()
	if b, e := ckpt.Load(n, s); b != want || e != api.OK {
		t.Errorf("%s: Load of %d is %q, %v; asked is %q", what, n, b, e, want)
	}
}

func checkLoadRefused(t *testing.T, what string, n int, s api.State) {
	t.Helper()
	if b, e := ckpt.Load(n, s); b != "" || e != api.ErrArg {
		t.Errorf("%s: Load of %d is %q, %v; asked is ErrArg alone", what, n, b, e)
	}
}

func TestLoadOfNothingByHand(t *testing.T) {
	inside := "\x05\x00\x00\x00\x00\x00" + "\x19\x00" // number 5, 25 bytes
	for range 25 {
		inside += "\x00"
	}
	sealed := framed(5, inside[8:])
	if sealed[:33] != inside || len(sealed) != 37 {
		t.Fatalf("the test's own frame is %q", sealed)
	}
	checkLoad(t, "P7.1", 5, api.State{}, sealed)
	checkLoad(t, "P7.1", 5, ckpt.First(), sealed)
}

func TestLoad(t *testing.T) {
	for _, p := range rights() {
		if !record.Stands(p.s) {
			t.Fatalf("the test's own state is none: %v", p.s)
		}
		checkLoad(t, "P7.1", p.n, p.s, framed(p.n, load(p.s)))
	}
}

func TestLoadOfNoNumber(t *testing.T) {
	for _, n := range noNumbers {
		for _, place := range []int{0, 1, 5, 40, greatest} {
			checkLoadRefused(t, "P7.1: no number", n, of(place))
		}
		checkLoadRefused(t, "P7.1: no number", n, ckpt.First())
		checkLoadRefused(t, "P7.1: no number", n, full())
		checkLoadRefused(t, "P7.1: no number, nor a state", n, api.State{Place: n})
	}
}

func TestLoadOfNoState(t *testing.T) {
	for name, s := range wrongStates() {
		if record.Stands(s) {
			t.Fatalf("the test's own state %s may be", name)
		}
		for _, n := range append([]int{1, 39, 40, 41, 70000, greatest}, noNumbers...) {
			checkLoadRefused(t, "P7.1: "+name, n, s)
		}
	}
}

func TestLoadOfAStateAboveTheNumber(t *testing.T) {
	for _, n := range []int{1, 2, 31, 32, 255, 256, 65535, 65536, greatest - 1} {
		for _, place := range []int{n + 1, min(n+2, greatest), min(n+32, greatest), min(n+256, greatest), greatest} {
			checkLoadRefused(t, "P7.1: a state above the number", n, of(place))
			checkLoadRefused(t, "P7.1: a state above the number", n, other(place))
			checkLoadRefused(t, "P7.1: a state above the number", n, api.State{Place: place})
		}
		checkLoad(t, "P7.1: a state at the number", n, of(n), framed(n, load(of(n))))
		checkLoad(t, "P7.1: a state one below", n, of(n-1), framed(n, load(of(n-1))))
		checkLoadRefused(t, "P7.1: a full state above the number", n, full())
	}
}
