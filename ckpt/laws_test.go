package ckpt_test

import (
	"testing"

	"flume/aid"
	"flume/api"
	"flume/ckpt"
	"flume/disk"
)

func put(t *testing.T, d api.Disk, p pair) api.Disk {
	t.Helper()
	left, e := ckpt.Put(d, p.n, p.s)
	if e != api.OK {
		t.Fatalf("P7.2: Put of number %d is %v", p.n, e)
	}
	for i := range sector {
		if left.Now[i] != d.Now[i] || left.Sure[i] != d.Sure[i] {
			t.Fatalf("P7.2: Put of number %d changes sector %d", p.n, i)
		}
	}
	if left.Sure[sector] != d.Sure[sector] {
		t.Fatalf("P7.2: Put of number %d makes it sure", p.n)
	}
	return left
}

// checkStanding holds Read against the pair; of number 0 there is none.
func checkStanding(t *testing.T, what string, d api.Disk, p pair) {
	t.Helper()
	if p.n == 0 {
		checkReadRefused(t, what, d, api.ErrEmpty)
		return
	}
	checkRead(t, what, d, p.n, p.s)
}

// checkCrashes holds Read behind crashes of every kind against what was put, and what was sure.
func checkCrashes(t *testing.T, d api.Disk, last, sure pair) {
	t.Helper()
	checkStanding(t, "P7.3: put", d, last)
	for _, lost := range aid.Crashes() {
		want := last
		if lost>>sector&1 == 1 {
			want = sure
		}
		left := aid.Crashed(t, d, lost)
		checkStanding(t, "P7.3: behind a crash", left, want)
		checkStanding(t, "P7.3: behind two crashes", aid.Crashed(t, left, aid.AllLost), want)
	}
}

func TestReadOfPut(t *testing.T) {
	for _, p := range rights() {
		checkCrashes(t, put(t, disk.New(), p), p, pair{})
		checkCrashes(t, aid.Synced(t, put(t, busy(), p)), p, p)
	}
}

func TestRowsWithASyncBetween(t *testing.T) {
	d, last := busy(), pair{}
	for _, n := range []int{1, 2, 3, 31, 32, 33, 255, 256, 65535, 65536, greatest - 1, greatest} {
		for i, s := range []api.State{of(n), of(n - 1), other(n / 2)} { // of each number the first one stands
			d = put(t, d, pair{n, s})
			if i == 0 {
				checkCrashes(t, d, pair{n, s}, last)
				d, last = aid.Synced(t, d), pair{n, s}
			}
			checkCrashes(t, d, last, last)
		}
		for _, late := range []int{1, n / 2, n - 1} {
			if late > 0 {
				d = put(t, d, pair{late, other(late)})
				checkCrashes(t, d, last, last)
			}
		}
	}
}

func TestRowsWithoutASyncBetween(t *testing.T) {
	for _, sure := range []pair{{}, {4, of(4)}, {4, of(0)}} {
		d := busy()
		if sure.n > 0 {
			d = aid.Synced(t, put(t, d, sure))
		}
		last := sure
		for _, n := range []int{5, 6, 6, 5, 7, 39, 38, 40, 1, 300, 65536, 7, greatest} {
			d = put(t, d, pair{n, of(n - n%2)})
			if n > last.n {
				last = pair{n, of(n - n%2)}
			}
			checkCrashes(t, d, last, sure)
		}
	}
}

func TestPutAnewBehindACrash(t *testing.T) {
	d := aid.Synced(t, put(t, busy(), pair{4, of(4)}))
	d = put(t, d, pair{9, of(9)})
	d = aid.Crashed(t, d, 1<<sector)
	checkStanding(t, "P7.3: lost", d, pair{4, of(4)})
	d = put(t, d, pair{9, other(9)}) // the number that was lost is free again
	checkCrashes(t, d, pair{9, other(9)}, pair{4, of(4)})
	d = aid.Crashed(t, d, aid.AllLost)
	d = put(t, d, pair{5, of(3)})
	checkCrashes(t, d, pair{5, of(3)}, pair{4, of(4)})
}

func TestLongLives(t *testing.T) {
	roll := aid.Rolling(7)
	for range 20 {
		d, last, sure := busy(), pair{}, pair{}
		for range 200 {
			switch roll(7) {
			case 0:
				lost := uint64(roll(1<<30)) << roll(4)
				if d = aid.Crashed(t, d, lost); lost>>sector&1 == 1 {
					last = sure
				}
				sure = last
			case 1:
				d, sure = aid.Synced(t, d), last
			default:
				n := 1 + min(max(0, last.n-5+roll(12)*(1+roll(100))), greatest-1)
				p := pair{n, of(max(0, n-roll(40)))}
				if d = put(t, d, p); p.n > last.n {
					last = p
				}
			}
			checkStanding(t, "P7.3: in a long life", d, last)
			checkStanding(t, "P7.3: in a long life, crashed", aid.Crashed(t, d, aid.AllLost), sure)
		}
	}
}
