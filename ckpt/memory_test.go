package ckpt_test

import (
	"slices"
	"testing"

	"flume/aid"
	"flume/api"
	"flume/ckpt"
	"flume/disk"
)

var (
	markItem   = api.Item{Key: 77, Place: 78, Value: 79}
	markLine   = api.Line{Offset: 74, Place: 75, J: 76, Key: 77, Value: 78}
	markSector = api.Sector{N: 3, B: "spare"}
)

func roomyState(s api.State) api.State {
	s.Items = aid.Roomy(s.Items, markItem)
	for q := range s.Lines {
		s.Lines[q] = aid.Roomy(s.Lines[q], markLine)
	}
	return s
}

func checkStateRoom(t *testing.T, what string, s, want api.State) {
	t.Helper()
	aid.CheckRoom(t, what, s.Items, want.Items, markItem)
	for q := range s.Lines {
		aid.CheckRoom(t, what, s.Lines[q], want.Lines[q], markLine)
	}
}

func fillState(s api.State) {
	aid.Fill(s.Items, markItem)
	for _, lines := range s.Lines {
		aid.Fill(lines, markLine)
	}
}

func roomyDisk(d api.Disk) api.Disk {
	return api.Disk{Now: aid.Roomy(d.Now, markSector), Sure: aid.Roomy(d.Sure, markSector)}
}

func fillDisk(d api.Disk) {
	aid.Fill(d.Now, markSector)
	aid.Fill(d.Sure, markSector)
}

// standing answers a disk with a checkpoint of number 50, over a sure one.
func standing() api.Disk {
	return with(busy(), holds(50, of(45)), holds(40, of(40)))
}

func TestNothingHandedInIsChanged(t *testing.T) {
	states := []api.State{{}, of(30), of(51), full()}
	for _, s := range wrongStates() {
		states = append(states, s)
	}
	for _, want := range states {
		for _, n := range []int{30, 50, 51, greatest, 0, -1, greatest + 1} {
			d, s := roomyDisk(standing()), roomyState(want)
			ckpt.Load(n, s)
			ckpt.Read(d)
			ckpt.Put(d, n, s)
			aid.CheckRoom(t, "asking", d.Now, standing().Now, markSector)
			aid.CheckRoom(t, "asking", d.Sure, standing().Sure, markSector)
			checkStateRoom(t, "asking", s, want)
		}
	}
}

func TestAnswersAreNewMemory(t *testing.T) {
	for _, n := range []int{46, 50, 51, greatest} { // of the first two the put is fenced
		d, s := roomyDisk(standing()), roomyState(of(46))
		b, _ := ckpt.Load(n, s)
		_, read, _ := ckpt.Read(d)
		left, _ := ckpt.Put(d, n, s)
		want := aid.Twin(left)
		fillDisk(d)
		fillState(s)
		if b != framed(n, load(of(46))) || !alike(read, of(45)) || !aid.SameDisk(left, want) {
			t.Error("R4: answers follow what was handed in")
		}
		d, s = roomyDisk(standing()), roomyState(of(46))
		left, _ = ckpt.Put(d, n, s)
		_, read, _ = ckpt.Read(left)
		fillDisk(left)
		fillState(read)
		aid.CheckRoom(t, "a change of the answer", d.Now, standing().Now, markSector)
		aid.CheckRoom(t, "a change of the answer", d.Sure, standing().Sure, markSector)
		checkStateRoom(t, "a change of the answer", s, of(46))
	}
}

func TestAnswersShareNothing(t *testing.T) {
	_, one, _ := ckpt.Read(standing())
	_, two, _ := ckpt.Read(standing())
	fillState(two)
	if !alike(one, of(45)) {
		t.Error("R4: two answers of Read share memory")
	}
	for q := range 3 {
		aid.Fill(one.Lines[q], markLine)
		if !slices.Equal(one.Items, of(45).Items) {
			t.Error("R4: an answer's lines and items share memory")
		}
		for p := q + 1; p < 3; p++ {
			if !slices.Equal(one.Lines[p], of(45).Lines[p]) {
				t.Errorf("R4: lines of partitions %d and %d share memory", q, p)
			}
		}
	}
	left, _ := ckpt.Put(standing(), 60, of(60))
	again, _ := ckpt.Put(standing(), 60, of(60))
	want := aid.Twin(left)
	fillDisk(again)
	if !aid.SameDisk(left, want) {
		t.Error("R4: two answers of Put share memory")
	}
	aid.Fill(left.Now, markSector)
	if !slices.Equal(left.Sure, want.Sure) {
		t.Error("R4: the rows of an answer share memory")
	}
}

func TestTheStateOfNothingIsNewEachTime(t *testing.T) {
	s := ckpt.First()
	s.Items = append(s.Items, markItem)
	s.Lines[1] = append(s.Lines[1], markLine)
	s.Place, s.Cut[2] = 5, 5
	if again := ckpt.First(); !isNothing(again) {
		t.Errorf("R4: First is %v behind a change of what it answered", again)
	}
}

func TestTheSameIsAnsweredAnew(t *testing.T) {
	d := standing()
	for range 3 {
		checkReadRefused(t, "R3", disk.New(), api.ErrEmpty)
		checkRead(t, "R3", d, 50, of(45))
		checkReadRefused(t, "R3", with(d, api.Sector{N: 50, B: "x"}, api.Sector{}), api.ErrCode)
		checkPut(t, "R3", d, pair{60, of(60)}, with(d, holds(60, of(60)), d.Sure[sector]))
		checkPut(t, "R3", d, pair{50, of(50)}, d)
		checkPutRefused(t, "R3", d, pair{60, of(61)})
		checkLoad(t, "R3", 60, of(60), framed(60, load(of(60))))
		checkLoadRefused(t, "R3", 60, of(61))
	}
}
