package disk_test

import (
	"math"
	"slices"
	"testing"

	"flume/aid"
	"flume/api"
	"flume/disk"
)

func TestNewHasSectorsOfNumberZero(t *testing.T) {
	d := disk.New()
	if len(d.Now) != 33 || len(d.Sure) != 33 {
		t.Fatalf("P3.1: New has rows of %d and %d sectors", len(d.Now), len(d.Sure))
	}
	for i := range 33 {
		if d.Now[i] != none || d.Sure[i] != none {
			t.Errorf("P3.1: sector %d of New has %v, %v", i, d.Now[i], d.Sure[i])
		}
	}
	if e := disk.Check(d); e != api.OK {
		t.Errorf("P3.1: New may not be: %v", e)
	}
}

func TestNewIsNewMemory(t *testing.T) {
	a, b := disk.New(), disk.New()
	for i := range a.Now {
		a.Now[i] = api.Sector{N: 1, B: "x"}
	}
	checkRows(t, "R4: New beside a changed New", b, disk.New())
	if a.Sure[0] != none {
		t.Error("R4: the rows of New share memory")
	}
}

func TestCheckOfDisksThatMayBe(t *testing.T) {
	for name, how := range map[string]func(d *api.Disk){
		"as it is":                   func(d *api.Disk) {},
		"the greatest number":        func(d *api.Disk) { d.Now[0].N, d.Sure[0].N = greatest, greatest },
		"the least number":           func(d *api.Disk) { d.Now[last], d.Sure[last] = api.Sector{N: 1, B: "x"}, none },
		"the longest bytes":          func(d *api.Disk) { d.Now[5], d.Sure[5] = api.Sector{N: 2, B: longB}, api.Sector{N: 1, B: longB} },
		"a number without bytes":     func(d *api.Disk) { d.Now[5], d.Sure[5] = api.Sector{N: 2}, api.Sector{N: 1} },
		"one number and other bytes": func(d *api.Disk) { d.Now[5], d.Sure[5] = api.Sector{N: 2, B: "x"}, api.Sector{N: 2, B: "y"} },
		"one number in two sectors":  func(d *api.Disk) { d.Now[5], d.Now[6] = api.Sector{N: 2, B: "x"}, api.Sector{N: 2, B: "x"} },
	} {
		d := sample()
		how(&d)
		if e := disk.Check(d); e != api.OK {
			t.Errorf("P3.1: %s: Check is %v", name, e)
		}
	}
}

func TestCheckOfDisksThatMayNotBe(t *testing.T) {
	for name, d := range wrongs() {
		if e := disk.Check(d); e != api.ErrArg {
			t.Errorf("P3.1: %s: Check is %v", name, e)
		}
	}
	for _, n := range []int{math.MinInt, math.MaxInt, -greatest, 1 << 20, 1 << 32, 1 << 40} {
		d := disk.New()
		d.Now[3], d.Sure[3] = api.Sector{N: n, B: "x"}, api.Sector{N: n, B: "x"}
		if e := disk.Check(d); e != api.ErrArg {
			t.Errorf("P3.1: number %d: Check is %v", n, e)
		}
	}
}

func TestGetIsWhatStands(t *testing.T) {
	d := sample()
	for i := range 33 {
		if s, e := disk.Get(d, i); s != d.Now[i] || e != api.OK {
			t.Errorf("P3.1: Get of sector %d is %v, %v", i, s, e)
		}
	}
	if s, e := disk.Get(disk.New(), 0); s != none || e != api.OK {
		t.Errorf("P3.1: Get of a new disk is %v, %v", s, e)
	}
}

func TestGetRefused(t *testing.T) {
	for _, i := range []int{-1, 33, 34, -33, 64, math.MinInt, math.MaxInt, 1 << 32} {
		if s, e := disk.Get(sample(), i); s != none || e != api.ErrArg {
			t.Errorf("P3.1: Get of sector %d is %v, %v", i, s, e)
		}
	}
	for name, d := range wrongs() {
		for _, i := range []int{0, 2, last, 33} {
			if s, e := disk.Get(d, i); s != none || e != api.ErrArg {
				t.Errorf("P3.1: Get of a disk with %s is %v, %v", name, s, e)
			}
		}
	}
}

func TestSameIsSectorBySector(t *testing.T) {
	if !disk.Same(disk.New(), disk.New()) || !disk.Same(sample(), sample()) {
		t.Error("P3.1: disks of the same sectors are not the same")
	}
	if disk.Same(disk.New(), sample()) || disk.Same(sample(), disk.New()) {
		t.Error("P3.1: disks of other sectors are the same")
	}
	for i := range 33 {
		for name, how := range map[string]func(d *api.Disk){
			"number that stands": func(d *api.Disk) { d.Now[i].N += 100 },
			"bytes that stand":   func(d *api.Disk) { d.Now[i].B += "x" },
			"sure number":        func(d *api.Disk) { d.Sure[i].N += 100 },
			"sure bytes":         func(d *api.Disk) { d.Sure[i].B += "x" },
		} {
			d := sample()
			how(&d)
			if disk.Same(d, sample()) || disk.Same(sample(), d) {
				t.Errorf("P3.1: Same of disks whose sector %d has another %s", i, name)
			}
		}
	}
	d := sample()
	d.Now, d.Sure = d.Sure, d.Now
	if disk.Same(d, sample()) {
		t.Error("P3.1: Same of rows turned about")
	}
}

func TestSameOfDisksThatMayNotBe(t *testing.T) {
	for name, d := range wrongs() {
		if !disk.Same(d, aid.Twin(d)) {
			t.Errorf("P3.1: a disk with %s is not the same as itself", name)
		}
		if disk.Same(d, sample()) || disk.Same(sample(), d) {
			t.Errorf("P3.1: a disk with %s is the same as one without", name)
		}
	}
	if !disk.Same(api.Disk{}, api.Disk{Now: []api.Sector{}, Sure: []api.Sector{}}) {
		t.Error("R1: nil rows and empty ones are not the same")
	}
}

func TestDirtyIsWhatIsNotSure(t *testing.T) {
	if got := disk.Dirty(sample()); !slices.Equal(got, []int{0, 1, 31, 32}) {
		t.Errorf("P3.1: Dirty is %v", got)
	}
	if got := disk.Dirty(disk.New()); len(got) != 0 {
		t.Errorf("P3.1: Dirty of a new disk is %v", got)
	}
	d := disk.New()
	for i := range 33 {
		d.Now[i] = api.Sector{N: 33 - i, B: "x"}
	}
	got := disk.Dirty(d)
	if len(got) != 33 || !slices.IsSorted(got) {
		t.Errorf("P3.1: Dirty of a disk of which nothing is sure is %v", got)
	}
	d = disk.New()
	d.Now[4], d.Sure[4] = api.Sector{N: 6, B: "x"}, api.Sector{N: 6, B: "y"} // the numbers are asked alone
	d.Now[5], d.Sure[5] = api.Sector{N: 6, B: "x"}, api.Sector{N: 5, B: "x"}
	if got := disk.Dirty(d); !slices.Equal(got, []int{5}) {
		t.Errorf("P3.1: Dirty is %v; asked is 5 alone", got)
	}
}

func TestDirtyOfDisksThatMayNotBe(t *testing.T) {
	for name, d := range wrongs() {
		if got := disk.Dirty(d); len(got) != 0 {
			t.Errorf("P3.1: Dirty of a disk with %s is %v", name, got)
		}
	}
}
