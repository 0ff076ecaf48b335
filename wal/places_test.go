package wal_test

import (
	"math"
	"testing"

	"flume/api"
	"flume/frame"
	"flume/record"
	"flume/wal"
)

func TestSector(t *testing.T) {
	for _, c := range []struct{ place, sector int }{
		{0, 0}, {1, 1}, {2, 2}, {30, 30}, {31, 31}, {32, 0}, {33, 1}, {34, 2}, {63, 31}, {64, 0}, {65, 1},
		{greatest - 1, 30}, {greatest, 31}, {greatest + 1, 0}, {greatest + 2, 1}, {1<<32 + 7, 7}, {math.MaxInt, 31},
		{-1, 0}, {-2, 0}, {-31, 0}, {-32, 0}, {-33, 0}, {-greatest, 0}, {5 - 1<<32, 0}, {math.MinInt, 0}, {math.MinInt + 1, 0},
	} {
		if got := wal.Sector(c.place); got != c.sector {
			t.Errorf("P6.1: Sector(%d) is %d; asked is %d", c.place, got, c.sector)
		}
	}
	for place := range 1000 {
		if got := wal.Sector(place); got != place&31 {
			t.Errorf("P6.1: Sector(%d) is %d", place, got)
		}
	}
}

func TestRoomAtTheBounds(t *testing.T) {
	for _, c := range []struct {
		place, ckpt int
		room        bool
	}{
		{0, 0, true}, {1, 0, true}, {31, 0, true}, {32, 0, true}, {33, 0, false}, {34, 0, false},
		{33, 1, true}, {34, 1, false}, {34, 2, true}, {34, 3, true},
		{100, 67, false}, {100, 68, true}, {100, 69, true}, {100, 100, true}, {100, 101, true}, {100, 132, true}, {100, greatest, true},
		{0, 1, true}, {0, greatest, true}, {1, greatest, true},
		{greatest, greatest - 33, false}, {greatest, greatest - 32, true}, {greatest, greatest - 31, true}, {greatest, greatest, true}, {greatest, 0, false},
	} {
		if got := wal.Room(c.place, c.ckpt); got != c.room {
			t.Errorf("P6.1: Room(%d, %d) is %t", c.place, c.ckpt, got)
		}
	}
	for place := range 120 {
		for ckpt := range 120 {
			if got := wal.Room(place, ckpt); got != (place <= ckpt+32) {
				t.Errorf("P6.1: Room(%d, %d) is %t", place, ckpt, got)
			}
		}
	}
}

func TestNoRoomOfWhatIsNoPlace(t *testing.T) {
	for _, n := range noPlaces {
		for _, place := range append([]int{0, 1, 5, 32, greatest - 1, greatest}, noPlaces...) {
			if wal.Room(n, place) {
				t.Errorf("P6.1: Room(%d, %d) is true", n, place)
			}
			if wal.Room(place, n) {
				t.Errorf("P6.1: Room(%d, %d) is true", place, n)
			}
		}
	}
}

// rightRecords answers records that may be, of all kinds.
func rightRecords() []api.Record {
	all := []api.Record{
		{Place: 2, Yes: true, Writes: writes(3, 7)},
		{Place: 2, Yes: true},
		{Place: 2, Yes: true, Writes: []api.Write{}},
		{Place: 2},
		{Place: greatest},
		{Place: greatest, Yes: true, Writes: writes(20, 255, 21, 255, 22, 255, 23, 255)},
		{Place: 1, Yes: true, Writes: writes(0, 0, 1, 0, 2, 0, 3, 0)},
	}
	for _, place := range []int{1, 4, 5, 31, 32, 33, 255, 256, 257, 65535, 65536, 70001, greatest - 1, greatest} {
		all = append(all, of(place), other(place))
	}
	return all
}

func TestEntry(t *testing.T) {
	b, e := wal.Entry(api.Record{Place: 2, Yes: true, Writes: writes(3, 7)})
	if want := "\x02\x00\x00\x00\x00\x00\x07\x00\x02\x00\x00\x01\x01\x03\x07"; e != api.OK || len(b) != len(want)+4 || b[:len(want)] != want {
		t.Errorf("P6.1: Entry of place 2, key 3 to 7 is %q, %v", b, e)
	}
	for _, r := range rightRecords() {
		b, e := wal.Entry(r)
		if e != api.OK || b != entry(r) {
			t.Errorf("P6.1: Entry of %v is %q, %v; asked is %q", r, b, e, entry(r))
		}
		number, l, e := frame.Read(b)
		back, f := record.Read([]byte(l))
		if number != r.Place || e != api.OK || f != api.OK || !alike(back, r) {
			t.Errorf("P6.1: in the entry of %v stands number %d, %v, %v, %v", r, number, back, e, f)
		}
	}
}

func TestEntryRefused(t *testing.T) {
	for name, r := range wrongRecords() {
		if b, e := wal.Entry(r); e != api.ErrArg || b != "" {
			t.Errorf("P6.1: Entry of a record, %s, is %q, %v; asked is ErrArg alone", name, b, e)
		}
	}
}
