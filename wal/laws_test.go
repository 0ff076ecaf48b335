package wal_test

import (
	"testing"

	"flume/aid"
	"flume/api"
	"flume/disk"
	"flume/wal"
)

func put(t *testing.T, d api.Disk, r api.Record) api.Disk {
	t.Helper()
	left, e := wal.Put(d, r)
	if e != api.OK {
		t.Fatalf("P6.2: Put of place %d is %v", r.Place, e)
	}
	return left
}

// behindRounds answers a disk on which the rounds up to ckpt stand, and are sure.
func behindRounds(t *testing.T, ckpt int) api.Disk {
	t.Helper()
	d := disk.New()
	for place := max(1, ckpt-70); place <= ckpt; place++ {
		d = put(t, d, of(place))
	}
	return aid.Synced(t, d)
}

func TestWhatWasPutAndSyncedIsThePrefixBehindAnyCrash(t *testing.T) {
	for _, ckpt := range []int{0, 1, 17, 31, 32, 33, 100, 65530, greatest - 33, greatest - 32} {
		d := behindRounds(t, ckpt)
		for n := 1; n <= round; n++ {
			place := ckpt + n
			if !wal.Room(place, ckpt) {
				t.Fatalf("P6.1: no room for %d behind %d", place, ckpt)
			}
			d = put(t, d, of(place))
			for _, lost := range aid.Crashes() {
				known := place
				if lost>>(place%round)&1 == 1 { // the last one alone was not synced
					known--
				}
				checkPrefix(t, "P6.3: put, crashed", aid.Crashed(t, d, lost), ckpt, recordsOf(from(ckpt+1, known)))
			}
			d = aid.Synced(t, d)
			for _, lost := range aid.Crashes() {
				checkPrefix(t, "P6.3: synced, crashed", aid.Crashed(t, d, lost), ckpt, recordsOf(from(ckpt+1, place)))
			}
		}
	}
}

func TestWithoutRoomThePrefixIsLost(t *testing.T) {
	for _, ckpt := range []int{0, 1, 31, 32, 70, 1000} {
		d := behindRounds(t, ckpt)
		for place := ckpt + 1; wal.Room(place, ckpt); place++ {
			d = put(t, d, of(place))
		}
		checkPrefix(t, "P6.3: all that there is room for", d, ckpt, recordsOf(from(ckpt+1, ckpt+32)))
		d = put(t, d, of(ckpt+33))
		checkPrefix(t, "P6.3: one more", d, ckpt, nil)
		checkPrefix(t, "P6.3: one more, at a later checkpoint", d, ckpt+1, recordsOf(from(ckpt+2, ckpt+33)))
	}
}

func TestCrashesOfWhatWasNotSyncedBetween(t *testing.T) {
	const many = 6
	for _, ckpt := range []int{0, 28, 95, greatest - many} {
		d := behindRounds(t, ckpt)
		for place := ckpt + 1; place <= ckpt+many; place++ {
			d = put(t, d, of(place))
		}
		for some := range 1 << many {
			lost, known, whole := uint64(0), ckpt, true
			for i := range many {
				if some>>i&1 == 1 {
					lost |= 1 << ((ckpt + 1 + i) % round)
					whole = false
				} else if whole {
					known++
				}
			}
			left := aid.Crashed(t, d, lost)
			checkPrefix(t, "P6.3: not synced between", left, ckpt, recordsOf(from(ckpt+1, known)))
			for place := range 40 {
				behind := max(0, ckpt-30) + place
				if behind <= greatest {
					checkPrefix(t, "P6.2: not synced between", left, behind, plainPrefix(left, behind))
				}
			}
		}
	}
}

// checkLate puts each older record, and another one of each place up to it, on d, which has to stay.
func checkLate(t *testing.T, d api.Disk, last int) {
	t.Helper()
	for place := max(1, last-70); place <= last; place++ {
		for _, r := range []api.Record{of(place), other(place)} {
			if left := put(t, d, r); !aid.SameDisk(left, d) {
				t.Fatalf("P6.3: behind %d, place %d put late changes something", last, place)
			}
		}
	}
}

func TestAnOlderOnePutLateChangesNothing(t *testing.T) {
	d := disk.New()
	for place := 1; place <= 100; place++ {
		d = put(t, d, of(place))
		checkLate(t, d, place)
		lost := aid.Crashed(t, d, aid.AllLost)
		checkLate(t, lost, place-1)
		late := put(t, lost, other(place)) // the one that was lost is put anew, and stands
		checkAt(t, "P6.3: put anew", late, place, other(place))
		d = aid.Synced(t, d)
		checkLate(t, d, place)
	}
}

func TestLongLives(t *testing.T) {
	roll := aid.Rolling(6)
	for life := range 12 {
		ckpt := life * roll(9000)
		d, last := behindRounds(t, ckpt), ckpt // all up to last are put, and but the last sure
		for range 150 {
			switch roll(6) {
			case 0:
				lost := uint64(roll(1<<30)) << roll(4)
				if left := aid.Crashed(t, d, lost); aid.SameDisk(left, aid.Crashed(t, d, 0)) {
					d = left
				} else {
					d, last = left, last-1
				}
			case 1:
				ckpt += roll(last - ckpt + 1)
			case 2:
				if last > 0 {
					d = put(t, d, other(max(1, last-roll(60)))) // late
				}
			default:
				d = aid.Synced(t, d)
				if wal.Room(last+1, ckpt) {
					last++
					d = put(t, d, of(last))
				}
			}
			ckpt = min(ckpt, last)
			checkPrefix(t, "P6.3: in a long life", d, ckpt, recordsOf(from(ckpt+1, last)))
		}
	}
}
