package disk_test

import (
	"testing"

	"flume/api"
	"flume/disk"
)

const mark = "spare"

// roomy answers d's like, each row with marked sectors in the room behind it.
func roomy(d api.Disk) api.Disk {
	widen := func(row []api.Sector) []api.Sector {
		all := append([]api.Sector{}, row...)
		for range 40 {
			all = append(all, api.Sector{N: 3, B: mark})
		}
		return all[:len(row)]
	}
	return api.Disk{Now: widen(d.Now), Sure: widen(d.Sure)}
}

// checkSpare looks whether the room behind a row is as roomy left it.
func checkSpare(t *testing.T, what string, row []api.Sector) {
	t.Helper()
	for _, s := range row[len(row):cap(row)][:40] {
		if s.N != 3 || s.B != mark {
			t.Errorf("R4: %s wrote %v behind a row that was handed in", what, s)
			return
		}
	}
}

// spoil changes all of a disk, and the room behind its rows.
func spoil(d api.Disk) {
	for _, row := range [][]api.Sector{d.Now, d.Sure} {
		all := row[:cap(row)]
		for i := range all {
			all[i] = api.Sector{N: 77, B: "spoilt"}
		}
	}
}

// acts answers calls that answer a disk.
func acts() map[string]func(d api.Disk) (api.Disk, api.Errno) {
	put := func(sector, number int) func(d api.Disk) (api.Disk, api.Errno) {
		return func(d api.Disk) (api.Disk, api.Errno) { return disk.Put(d, sector, number, "put") }
	}
	crash := func(lost uint64) func(d api.Disk) (api.Disk, api.Errno) {
		return func(d api.Disk) (api.Disk, api.Errno) { return disk.Crash(d, lost) }
	}
	return map[string]func(d api.Disk) (api.Disk, api.Errno){
		"a put in the first sector":  put(0, 50),
		"a put amid":                 put(17, 50),
		"a put in the last sector":   put(last, 50),
		"a put that is fenced":       put(0, 1),
		"a put fenced at the end":    put(last, 12),
		"a put of no number":         put(0, 0),
		"a put in no sector":         put(33, 50),
		"a sync":                     disk.Sync,
		"a crash that loses nothing": crash(0),
		"a crash that loses one":     crash(1 << last),
		"a crash that loses all":     crash(1<<33 - 1),
	}
}

func TestNothingHandedInIsChanged(t *testing.T) {
	for name, act := range acts() {
		d := roomy(sample())
		act(d)
		checkRows(t, "R4: handed in to "+name, d, sample())
		checkSpare(t, name, d.Now)
		checkSpare(t, name, d.Sure)
	}
	d := roomy(sample())
	disk.Check(d)
	disk.Get(d, 0)
	disk.Same(d, d)
	disk.Dirty(d)
	checkRows(t, "R4: handed in to be asked", d, sample())
	checkSpare(t, "asking", d.Now)
	checkSpare(t, "asking", d.Sure)
}

func TestAnswersAreNewMemory(t *testing.T) {
	for name, act := range acts() {
		d := roomy(sample())
		got, _ := act(d)
		want := twin(got)
		spoil(d)
		checkRows(t, "R4: behind a change of what was handed in to "+name, got, want)

		d = roomy(sample())
		got, _ = act(d)
		spoil(got)
		checkRows(t, "R4: handed in, behind a change of the answer of "+name, d, sample())
		checkSpare(t, "a change of the answer of "+name, d.Now)
		checkSpare(t, "a change of the answer of "+name, d.Sure)
	}
}

func TestTheRowsOfAnAnswerShareNothing(t *testing.T) {
	for name, act := range acts() {
		got, _ := act(sample())
		want := twin(got)
		spoil(api.Disk{Now: got.Now})
		checkRows(t, "R4: the sure row, behind a change of what stands, of "+name, api.Disk{Sure: got.Sure}, api.Disk{Sure: want.Sure})
	}
}

func TestTheSameTwiceIsTheSameInOtherMemory(t *testing.T) {
	d := sample()
	for name, act := range acts() {
		a, e := act(d)
		b, f := act(d)
		if e != f || !disk.Same(a, b) {
			t.Errorf("R3: %s answers otherwise when it is done anew", name)
		}
		want := twin(a)
		spoil(b)
		checkRows(t, "R4: the answer of "+name+", behind a change of another one", a, want)
	}
	list := disk.Dirty(d)
	list[0] = 99
	if again := disk.Dirty(d); again[0] != 0 {
		t.Error("R4: two answers of Dirty share memory")
	}
}
