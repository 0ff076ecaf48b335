package disk_test

import (
	"strings"
	"testing"

	"flume/aid"
	"flume/api"
	"flume/disk"
)

// plain is a disk told as the chapter does: what stands, what is sure.
type plain struct {
	now, sure [33]api.Sector
}

// act is one thing done to a disk: a put, unless sync or crash is set.
type act struct {
	sector, number int
	b              string
	sync, crash    bool
	lost           uint64
}

func (p plain) behind(a act) plain {
	switch {
	case a.sync:
		p.sure = p.now
	case a.crash:
		for i := range p.now {
			if a.lost&(1<<i) != 0 {
				p.now[i] = p.sure[i]
			}
		}
		p.sure = p.now
	case a.number > p.now[a.sector].N:
		p.now[a.sector] = api.Sector{N: a.number, B: a.b}
	}
	return p
}

func (p plain) disk() api.Disk {
	return api.Disk{Now: p.now[:], Sure: p.sure[:]}
}

func (a act) on(t *testing.T, d api.Disk) api.Disk {
	t.Helper()
	var e api.Errno
	switch {
	case a.sync:
		d, e = disk.Sync(d)
	case a.crash:
		d, e = disk.Crash(d, a.lost)
	default:
		d, e = disk.Put(d, a.sector, a.number, a.b)
	}
	if e != api.OK {
		t.Fatalf("P3.2: %+v is %v", a, e)
	}
	return d
}

// few answers acts of each kind on three sectors.
func few() []act {
	return []act{
		{sector: 0, number: 1, b: "a"}, {sector: 0, number: 2, b: "b"}, {sector: 0, number: 2, b: "c"},
		{sector: 16, number: 2, b: "d"},
		{sector: last, number: 1, b: "e"}, {sector: last, number: 3, b: "f"},
		{sync: true},
		{crash: true}, {crash: true, lost: 1}, {crash: true, lost: 1 << last}, {crash: true, lost: 1<<33 - 1},
	}
}

// checkStep holds one act on a disk against the chapter's telling, and against what follows from it.
func checkStep(t *testing.T, a act, d api.Disk, p plain) (api.Disk, plain) {
	t.Helper()
	left, want := a.on(t, d), p.behind(a)
	if !disk.Same(left, want.disk()) {
		t.Fatalf("P3.2: %+v leaves other sectors than it should", a)
	}
	if e := disk.Check(left); e != api.OK {
		t.Fatalf("P3.2: behind %+v the disk may not be: %v", a, e)
	}
	for i := range 33 {
		if left.Now[i].N < d.Now[i].N && !a.crash {
			t.Fatalf("P3.3: a number that stood fell by %+v", a)
		}
		if left.Sure[i].N < d.Sure[i].N {
			t.Fatalf("P3.3: a sure number fell by %+v", a)
		}
	}
	return left, want
}

func TestAllShortRows(t *testing.T) {
	var further func(d api.Disk, p plain, deep int)
	further = func(d api.Disk, p plain, deep int) {
		if deep == 0 {
			return
		}
		for _, a := range few() {
			left, want := checkStep(t, a, d, p)
			further(left, want, deep-1)
		}
	}
	further(disk.New(), plain{}, 4)
}

func TestLongRows(t *testing.T) {
	roll := aid.Rolling(1)
	for range 20 {
		d, p := disk.New(), plain{}
		for i := range 400 {
			a := act{sector: roll(33), number: 1 + i/2 + roll(20), b: strings.Repeat("b", 1+roll(long))}
			switch roll(12) {
			case 0:
				a = act{sync: true}
			case 1:
				a = act{crash: true, lost: uint64(roll(1<<30)) << roll(30)}
			}
			d, p = checkStep(t, a, d, p)
		}
	}
}

func TestWhatWasSyncedStandsBehindAnyCrash(t *testing.T) {
	for _, lost := range []uint64{0, 1, 1 << last, 1<<33 - 1} {
		for _, i := range []int{0, 16, last} {
			d := act{sector: i, number: 5, b: "five"}.on(t, disk.New())
			d = act{sync: true}.on(t, d)
			crash := act{crash: true, lost: lost}
			if s, _ := disk.Get(crash.on(t, d), i); s.N != 5 || s.B != "five" {
				t.Errorf("P3.3: put, synced, crashed (%x): %v", lost, s)
			}
			more := act{sector: i, number: 6, b: "six"}.on(t, d)
			if s, _ := disk.Get(crash.on(t, more), i); !(s.N == 5 && s.B == "five") && !(s.N == 6 && s.B == "six") {
				t.Errorf("P3.3: put, synced, put, crashed (%x): %v", lost, s)
			}
		}
	}
}

func TestPutsTurnedAboutAndDoneTwice(t *testing.T) {
	for _, a := range few()[:6] {
		for _, b := range few()[:6] {
			if a.sector == b.sector {
				continue
			}
			if !disk.Same(b.on(t, a.on(t, disk.New())), a.on(t, b.on(t, disk.New()))) {
				t.Errorf("P3.3: %+v and %+v can't be turned about", a, b)
			}
		}
		once := a.on(t, disk.New())
		if !disk.Same(a.on(t, once), once) {
			t.Errorf("P3.3: %+v twice is not once", a)
		}
	}
}
