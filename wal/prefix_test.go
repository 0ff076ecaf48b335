package wal_test

import (
	"slices"
	"testing"

	"flume/aid"
	"flume/api"
	"flume/disk"
	"flume/wal"
)

func TestPrefix(t *testing.T) {
	for _, c := range []struct {
		name   string
		stand  []int
		behind int
		want   []int
	}{
		{"nothing", nil, 0, nil},
		{"nothing", nil, 5, nil},
		{"nothing", nil, greatest, nil},
		{"one", from(1, 1), 0, from(1, 1)},
		{"all behind", from(1, 3), 0, from(1, 3)},
		{"some ahead", from(1, 9), 4, from(5, 9)},
		{"only ahead", from(1, 9), 9, nil},
		{"only ahead", from(1, 9), 20, nil},
		{"not the first one", from(2, 9), 0, nil},
		{"a hole", append(from(1, 4), from(6, 9)...), 0, from(1, 4)},
		{"a hole ahead", append(from(1, 4), from(6, 9)...), 5, from(6, 9)},
		{"the first missing", from(6, 9), 4, nil},
		{"a full round", from(1, 32), 0, from(1, 32)},
		{"a round but one", from(1, 31), 0, from(1, 31)},
		{"a round, further on", from(1, 32), 1, from(2, 32)},
		{"a round, near its end", from(1, 32), 31, from(32, 32)},
		{"a round, at its end", from(1, 32), 32, nil},
		{"over the end of the circle", from(30, 35), 29, from(30, 35)},
		{"a round over the end", from(20, 51), 19, from(20, 51)},
		{"a round over the end, amid", from(20, 51), 40, from(41, 51)},
		{"a round over the end, below", from(20, 51), 18, nil},
		{"one over", from(1, 33), 0, nil},
		{"one over, behind it", from(1, 33), 1, from(2, 33)},
		{"more rounds", from(1, 500), 468, from(469, 500)},
		{"more rounds, amid", from(1, 500), 480, from(481, 500)},
		{"more rounds, too early", from(1, 500), 467, nil},
		{"the place of the sector 0", from(64, 64), 63, from(64, 64)},
		{"up to the greatest", from(greatest-31, greatest), greatest - 32, from(greatest-31, greatest)},
		{"the greatest alone", from(greatest, greatest), greatest - 1, from(greatest, greatest)},
		{"behind the greatest", from(greatest-31, greatest), greatest, nil},
	} {
		d := laid(c.stand...)
		checkPrefix(t, "P6.2: "+c.name, d, c.behind, recordsOf(c.want))
		for _, place := range append([]int{0, greatest}, c.stand...) {
			checkPrefix(t, "P6.2: "+c.name, d, place, plainPrefix(d, place))
		}
	}
}

func TestPrefixTellsWhatStandsNotWhatIsSure(t *testing.T) {
	d := laid(from(1, 6)...)
	copy(d.Sure, d.Now)
	d.Now[3] = api.Sector{N: 35, B: entry(of(35))}
	checkPrefix(t, "P6.2: 3 is sure only", d, 0, recordsOf(from(1, 2)))
	d.Now[3] = api.Sector{N: 3, B: entry(other(3))}
	checkPrefix(t, "P6.2: 3 is another one than the sure one", d, 1, []api.Record{of(2), other(3), of(4), of(5), of(6)})
}

func TestPrefixWhateverTheCheckpointsSectorHas(t *testing.T) {
	d := laid(from(20, 51)...)
	for _, s := range []api.Sector{{}, {N: 32, B: entry(of(32))}, {N: 52, B: entry(of(52))}, {N: greatest, B: "x"}} {
		d.Now[32] = s
		checkPrefix(t, "P6.2", d, 19, recordsOf(from(20, 51)))
	}
}

func TestPrefixRefused(t *testing.T) {
	for _, behind := range noPlaces {
		checkPrefixRefused(t, "P6.2", disk.New(), behind)
		checkPrefixRefused(t, "P6.2", laid(from(1, 32)...), behind)
	}
	for name, d := range wrongDisks() {
		for _, behind := range append([]int{0, 1, 5, 20, 31, greatest}, noPlaces...) {
			checkPrefixRefused(t, "P6.2, on a disk with "+name, d, behind)
		}
	}
}

func TestPut(t *testing.T) {
	for _, r := range rightRecords() {
		want := disk.New()
		lay(want, r)
		checkPut(t, "P6.2: on a new disk", disk.New(), r, want)
	}
	d := laid(from(1, 40)...)
	copy(d.Sure, d.Now)
	for _, place := range []int{41, 42, 63, 64, 65, 72, 73, 105, 500, greatest - 1, greatest} {
		want := aid.Twin(d)
		lay(want, of(place))
		checkPut(t, "P6.2: over what stood", d, of(place), want)
		checkPut(t, "P6.2: over what stood, not sure", api.Disk{Now: d.Now, Sure: disk.New().Sure}, of(place), api.Disk{Now: want.Now, Sure: disk.New().Sure})
	}
}

func TestPutIsFenced(t *testing.T) {
	d := laid(from(1, 40)...)
	copy(d.Sure[:20], d.Now)
	d.Now[15] = api.Sector{N: 4000, B: "no record"} // of whatever else there is, only the number counts
	for place := 1; place <= 40; place++ {
		checkPut(t, "P6.2: of what stands", d, of(place), d)
		checkPut(t, "P6.2: of another one of a place that was put", d, other(place), d)
	}
	checkPut(t, "P6.2: below a greater number", d, of(47), d)
	checkPut(t, "P6.2: below a greater number", d, of(15+32*124), d)
	want := aid.Twin(d)
	lay(want, of(15+32*126))
	checkPut(t, "P6.2: above it", d, of(15+32*126), want)
}

func TestPutRefused(t *testing.T) {
	for name, r := range wrongRecords() {
		checkPutRefused(t, "P6.2, of a record, "+name, disk.New(), r)
		checkPutRefused(t, "P6.2, of a record, "+name, laid(from(1, 40)...), r)
	}
	for name, d := range wrongDisks() {
		for _, place := range []int{1, 5, 25, 50, greatest} {
			checkPutRefused(t, "P6.2, on a disk with "+name, d, of(place))
		}
		checkPutRefused(t, "P6.2, on a disk with "+name, d, api.Record{})
	}
}

func TestAnswersAreTheSameAnew(t *testing.T) {
	d := laid(from(1, 40)...)
	for range 3 {
		checkAt(t, "R3", d, 40, of(40))
		checkNotAt(t, "R3", d, 8)
		checkPrefix(t, "R3", d, 8, recordsOf(from(9, 40)))
		checkPrefixRefused(t, "R3", api.Disk{}, 8)
		checkPut(t, "R3", d, of(3), d)
		checkPutRefused(t, "R3", d, api.Record{})
		if all, _ := wal.Prefix(d, 38); !slices.EqualFunc(all, recordsOf(from(39, 40)), alike) {
			t.Errorf("R3: Prefix is %v", all)
		}
	}
}
