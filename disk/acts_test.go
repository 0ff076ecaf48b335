package disk_test

import (
	"math"
	"testing"

	"flume/api"
	"flume/disk"
)

func TestPutAboveWhatStands(t *testing.T) {
	for _, c := range []struct {
		sector, number int
		b              string
	}{
		{0, 8, "x"},
		{0, 9, longB},
		{0, greatest, "x"},
		{1, 2, "x"},
		{2, 10, "\x00"},
		{3, 1, "x"},
		{3, greatest, longB},
		{last, 13, "twelve"},
	} {
		want := sample()
		want.Now[c.sector] = api.Sector{N: c.number, B: c.b}
		d, e := disk.Put(sample(), c.sector, c.number, c.b)
		if e != api.OK {
			t.Errorf("P3.2: Put(%d, %d) is %v", c.sector, c.number, e)
		}
		checkRows(t, "P3.2: Put", d, want)
	}
}

func TestPutNotAboveWhatStandsIsFenced(t *testing.T) {
	for _, c := range []struct{ sector, number int }{
		{0, 7}, {0, 6}, {0, 5}, {0, 1}, // the sure one is 5
		{1, 1},
		{2, 9}, {2, 8},
		{31, greatest}, {31, greatest - 1}, {31, 1},
		{last, 12}, {last, 11},
	} {
		d, e := disk.Put(sample(), c.sector, c.number, "other")
		if e != api.OK {
			t.Errorf("P3.2: Put(%d, %d) is %v", c.sector, c.number, e)
		}
		checkRows(t, "P3.2: a put that is fenced", d, sample())
	}
}

func TestPutInEachSector(t *testing.T) {
	for i := range 33 {
		want := disk.New()
		want.Now[i] = api.Sector{N: 1, B: "x"}
		d, e := disk.Put(disk.New(), i, 1, "x")
		if e != api.OK {
			t.Errorf("P3.2: Put in sector %d is %v", i, e)
		}
		checkRows(t, "P3.2: Put", d, want)
	}
}

func TestPutRefused(t *testing.T) {
	for _, c := range []struct {
		sector, number int
		b              string
	}{
		{-1, 8, "x"}, {33, 8, "x"}, {math.MinInt, 8, "x"}, {math.MaxInt, 8, "x"}, {1 << 32, 8, "x"},
		{0, 0, "x"}, {0, -1, "x"}, {0, greatest + 1, "x"}, {0, math.MinInt, "x"}, {0, math.MaxInt, "x"},
		{3, 0, "x"}, {31, greatest + 1, "x"},
		{0, 8, ""}, {0, 8, tooLong}, {31, 8, ""}, {31, 8, tooLong}, // of a put that is fenced, too
		{33, 0, ""}, {-1, greatest + 1, tooLong},
	} {
		d, e := disk.Put(sample(), c.sector, c.number, c.b)
		checkRefused(t, "P3.2: Put", d, e)
	}
	for name, d := range wrongs() {
		for _, i := range []int{0, 3, 17, last, 33} {
			left, e := disk.Put(d, i, 100, "x")
			checkRefused(t, "P3.2: Put on a disk with "+name, left, e)
		}
	}
}

func TestSyncMakesSureWhatStands(t *testing.T) {
	want := sample()
	copy(want.Sure, want.Now)
	d, e := disk.Sync(sample())
	if e != api.OK {
		t.Errorf("P3.2: Sync is %v", e)
	}
	checkRows(t, "P3.2: Sync", d, want)
	if left := disk.Dirty(d); len(left) != 0 {
		t.Errorf("P3.2: behind Sync, dirty is %v", left)
	}
	d, e = disk.Sync(disk.New())
	if e != api.OK {
		t.Errorf("P3.2: Sync is %v", e)
	}
	checkRows(t, "P3.2: Sync of a new disk", d, disk.New())
}

func TestSyncOfOneNumberWithOtherBytes(t *testing.T) {
	d := disk.New()
	d.Now[4], d.Sure[4] = api.Sector{N: 6, B: "stands"}, api.Sector{N: 6, B: "sure"}
	synced, _ := disk.Sync(d)
	if synced.Now[4].B != "stands" || synced.Sure[4].B != "stands" {
		t.Errorf("P3.2: Sync leaves %v, %v", synced.Now[4], synced.Sure[4])
	}
	crashed, _ := disk.Crash(d, 1<<4)
	if crashed.Now[4].B != "sure" || crashed.Sure[4].B != "sure" {
		t.Errorf("P3.2: Crash leaves %v, %v", crashed.Now[4], crashed.Sure[4])
	}
}

func TestCrashLosesTheSectorsOfItsBits(t *testing.T) {
	lost := []uint64{0, 1<<33 - 1, 1 << last, 1 << 31, 1<<32 | 1, 0x155555555, 0x0AAAAAAAA, math.MaxUint64}
	for i := range 33 {
		lost = append(lost, 1<<i, (1<<33-1)&^(1<<i))
	}
	for _, bits := range lost {
		want := sample()
		for i := range 33 {
			if bits&(1<<i) != 0 {
				want.Now[i] = want.Sure[i]
			} else {
				want.Sure[i] = want.Now[i]
			}
		}
		d, e := disk.Crash(sample(), bits)
		if e != api.OK {
			t.Errorf("P3.2: Crash of %x is %v", bits, e)
		}
		checkRows(t, "P3.2: Crash", d, want)
	}
}

func TestCrashOfBitsBehindTheLastSector(t *testing.T) {
	want, _ := disk.Crash(sample(), 0)
	for i := 33; i < 64; i++ {
		d, e := disk.Crash(sample(), 1<<i)
		if e != api.OK {
			t.Errorf("P3.2: Crash of bit %d is %v", i, e)
		}
		checkRows(t, "P3.2: Crash of a bit that no sector has", d, want)
	}
}

func TestSyncAndCrashRefused(t *testing.T) {
	for name, d := range wrongs() {
		left, e := disk.Sync(d)
		checkRefused(t, "P3.2: Sync of a disk with "+name, left, e)
		for _, lost := range []uint64{0, 1, 1<<33 - 1} {
			left, e = disk.Crash(d, lost)
			checkRefused(t, "P3.2: Crash of a disk with "+name, left, e)
		}
	}
}

func TestTheChaptersExamples(t *testing.T) {
	d, _ := disk.Put(disk.New(), 0, 5, "a")
	d, _ = disk.Put(d, 0, 4, "b")
	if s, e := disk.Get(d, 0); s.N != 5 || s.B != "a" || e != api.OK {
		t.Errorf("P3.2: what stands is %v, %v; asked is 5, a", s, e)
	}
	d, _ = disk.Put(disk.New(), 0, 5, "a")
	d, _ = disk.Crash(d, 1)
	if s, e := disk.Get(d, 0); s != none || e != api.OK {
		t.Errorf("P3.2: what stands is %v, %v; asked is 0", s, e)
	}
}
