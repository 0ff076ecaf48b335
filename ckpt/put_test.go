package ckpt_test

import (
	"testing"

	"flume/api"
	"flume/ckpt"
	"flume/disk"
)

func TestPut(t *testing.T) {
	for _, p := range rights() {
		for name, d := range map[string]api.Disk{"a new disk": disk.New(), "a busy disk": busy()} {
			want := with(d, holds(p.n, p.s), api.Sector{}) // the sure row stays: nothing is synced
			checkPut(t, "P7.2: on "+name, d, p, want)
		}
	}
}

func TestPutIsFenced(t *testing.T) {
	for _, stood := range []int{1, 2, 31, 32, 33, 255, 256, 65536, greatest - 1, greatest} {
		for _, n := range []int{1, stood - 256, stood - 1, stood, stood + 1, stood + 2, stood + 256, greatest} {
			if n < 1 || n > greatest {
				continue
			}
			for _, sure := range []api.Sector{{}, holds(stood, of(stood)), holds(1, other(1)), {N: 1, B: "x"}} {
				d := with(busy(), holds(stood, of(stood)), sure)
				want := d
				if n > stood {
					want = with(d, holds(n, other(n)), sure)
				}
				checkPut(t, "P7.2: over a checkpoint", d, pair{n, other(n)}, want)
				checkPut(t, "P7.2: over what is none", with(d, api.Sector{N: stood, B: "x"}, sure), pair{n, other(n)},
					with(d, map[bool]api.Sector{true: holds(n, other(n)), false: {N: stood, B: "x"}}[n > stood], sure))
			}
		}
	}
}

func TestPutIsFencedByNumbersNotByPlaces(t *testing.T) {
	d := with(busy(), holds(50, of(20)), api.Sector{})
	checkPut(t, "P7.2: a later state of the same number", d, pair{50, of(50)}, d)
	checkPut(t, "P7.2: a later state of a lesser number", d, pair{49, of(49)}, d)
	checkPut(t, "P7.2: an earlier state of a greater number", d, pair{51, of(19)}, with(d, holds(51, of(19)), api.Sector{}))
	checkPut(t, "P7.2: nothing, of a greater number", d, pair{51, ckpt.First()}, with(d, holds(51, api.State{}), api.Sector{}))
	checkPut(t, "P7.2: the same again", d, pair{50, of(20)}, d)
}

func TestPutOverEachThingThatIsNone(t *testing.T) {
	for name, s := range noCheckpoints() {
		d := with(busy(), s, api.Sector{})
		if s.N < greatest {
			checkPut(t, "P7.2: over "+name, d, pair{s.N + 1, of(s.N + 1)}, with(d, holds(s.N+1, of(s.N+1)), api.Sector{}))
		}
		checkPut(t, "P7.2: at the number of "+name, d, pair{s.N, of(s.N)}, d)
	}
}

func TestPutRefused(t *testing.T) {
	stood := []api.Disk{disk.New(), busy(), with(busy(), holds(7, of(6)), holds(7, of(6))), with(busy(), holds(greatest, of(6)), api.Sector{})}
	for _, d := range stood {
		for _, n := range noNumbers {
			checkPutRefused(t, "P7.2: no number", d, pair{n, of(0)})
			checkPutRefused(t, "P7.2: no number", d, pair{n, of(5)})
			checkPutRefused(t, "P7.2: no number", d, pair{n, full()})
		}
		for name, s := range wrongStates() {
			for _, n := range []int{1, 40, greatest, 0} {
				checkPutRefused(t, "P7.2: "+name, d, pair{n, s})
			}
		}
		for _, n := range []int{1, 2, 6, 7, 8, 255, 256, greatest - 1} {
			checkPutRefused(t, "P7.2: a state above the number", d, pair{n, of(n + 1)})
			checkPutRefused(t, "P7.2: a state far above the number", d, pair{n, full()})
		}
	}
}

func TestPutOnADiskThatMayNotBe(t *testing.T) {
	for _, s := range []api.Sector{{}, holds(7, of(6)), {N: 7, B: "x"}} {
		for name, d := range wrongDisks(s, api.Sector{}) {
			for _, n := range []int{1, 7, 8, greatest, 0} {
				checkPutRefused(t, "P7.2: a disk with "+name, d, pair{n, of(min(n, 1))})
			}
			checkPutRefused(t, "P7.2: no state, a disk with "+name, d, pair{8, of(9)})
		}
	}
}
