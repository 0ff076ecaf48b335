package disk_test

import (
	"testing"

	"flume/aid"
	"flume/api"
	"flume/disk"
)

var (
	mark   = api.Sector{N: 3, B: "spare"}
	spoilt = api.Sector{N: 77, B: "spoilt"}
)

func roomy(d api.Disk) api.Disk {
	return api.Disk{Now: aid.Roomy(d.Now, mark), Sure: aid.Roomy(d.Sure, mark)}
}

// checkKept looks whether d is the sample still, and the room behind its rows as it was.
func checkKept(t *testing.T, what string, d api.Disk) {
	t.Helper()
	aid.CheckRoom(t, what, d.Now, sample().Now, mark)
	aid.CheckRoom(t, what, d.Sure, sample().Sure, mark)
}

// spoil changes all of a disk, and the room behind its rows.
func spoil(d api.Disk) {
	aid.Fill(d.Now, spoilt)
	aid.Fill(d.Sure, spoilt)
}

// acts answers calls that answer a disk.
func acts() map[string]func(d api.Disk) (api.Disk, api.Errno) {
	put := func(sector, number int) func(d api.Disk) (api.Disk, api.Errno) {
		return func(d api.Disk) (api.Disk, api.Errno) { return disk.Put(d, sector, number, "put") }
	}
	crash := func(lost uint64) func(d api.Disk) (api.Disk, api.Errno) {
		return func(d api.Disk) (api.Disk, api.Errno) { return disk.Crash(d, lost) }
	}
	return map[string]func(d api.Disk) (api.Disk, api.Errno){
		"a put in the first sector":  put(0, 50),
		"a put amid":                 put(17, 50),
		"a put in the last sector":   put(last, 50),
		"a put that is fenced":       put(0, 1),
		"a put fenced at the end":    put(last, 12),
		"a put of no number":         put(0, 0),
		"a put in no sector":         put(33, 50),
		"a sync":                     disk.Sync,
		"a crash that loses nothing": crash(0),
		"a crash that loses one":     crash(1 << last),
		"a crash that loses all":     crash(1<<33 - 1),
	}
}

func TestNothingHandedInIsChanged(t *testing.T) {
	for name, act := range acts() {
		d := roomy(sample())
		act(d)
		checkKept(t, name, d)
	}
	d := roomy(sample())
	disk.Check(d)
	disk.Get(d, 0)
	disk.Same(d, d)
	disk.Dirty(d)
	checkKept(t, "asking", d)
}

func TestAnswersAreNewMemory(t *testing.T) {
	for name, act := range acts() {
		d := roomy(sample())
		got, _ := act(d)
		want := aid.Twin(got)
		spoil(d)
		checkRows(t, "R4: behind a change of what was handed in to "+name, got, want)

		d = roomy(sample())
		got, _ = act(d)
		spoil(got)
		checkKept(t, "a change of the answer of "+name, d)
	}
}

func TestTheRowsOfAnAnswerShareNothing(t *testing.T) {
	for name, act := range acts() {
		got, _ := act(sample())
		want := aid.Twin(got)
		spoil(api.Disk{Now: got.Now})
		checkRows(t, "R4: the sure row, behind a change of what stands, of "+name, api.Disk{Sure: got.Sure}, api.Disk{Sure: want.Sure})
	}
}

func TestTheSameTwiceIsTheSameInOtherMemory(t *testing.T) {
	d := sample()
	for name, act := range acts() {
		a, e := act(d)
		b, f := act(d)
		if e != f || !disk.Same(a, b) {
			t.Errorf("R3: %s answers otherwise when it is done anew", name)
		}
		want := aid.Twin(a)
		spoil(b)
		checkRows(t, "R4: the answer of "+name+", behind a change of another one", a, want)
	}
	list := disk.Dirty(d)
	list[0] = 99
	if again := disk.Dirty(d); again[0] != 0 {
		t.Error("R4: two answers of Dirty share memory")
	}
}
