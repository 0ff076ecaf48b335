package wal_test

import (
	"slices"
	"testing"

	"flume/aid"
	"flume/api"
	"flume/wal"
)

var (
	markWrite  = api.Write{Key: 77, Value: 78}
	markSector = api.Sector{N: 3, B: "spare"}
)

func roomyDisk(d api.Disk) api.Disk {
	return api.Disk{Now: aid.Roomy(d.Now, markSector), Sure: aid.Roomy(d.Sure, markSector)}
}

func checkDiskRoom(t *testing.T, what string, d, want api.Disk) {
	t.Helper()
	aid.CheckRoom(t, what, d.Now, want.Now, markSector)
	aid.CheckRoom(t, what, d.Sure, want.Sure, markSector)
}

func fillDisk(d api.Disk) {
	aid.Fill(d.Now, markSector)
	aid.Fill(d.Sure, markSector)
}

// partlySure answers a disk on which 9 to 40 stand, and some of them are sure.
func partlySure() api.Disk {
	d := laid(from(1, 40)...)
	copy(d.Sure[3:20], d.Now[3:20])
	return d
}

func TestNothingHandedInIsChanged(t *testing.T) {
	for _, place := range []int{1, 8, 9, 40, 41, 64, 500, greatest, 0, -1, greatest + 1} {
		d := roomyDisk(partlySure())
		r := of(max(place, 0))
		r.Place = place
		want := slices.Clone(r.Writes)
		r.Writes = aid.Roomy(r.Writes, markWrite)
		wal.At(d, place)
		wal.Prefix(d, place)
		wal.Entry(r)
		wal.Put(d, r)
		checkDiskRoom(t, "asking", d, partlySure())
		aid.CheckRoom(t, "asking", r.Writes, want, markWrite)
	}
}

func TestAnswersAreNewMemory(t *testing.T) {
	for _, place := range []int{9, 40, 41, 500} { // of 9 and 40 the put is fenced
		d := roomyDisk(partlySure())
		r := of(place)
		r.Writes = aid.Roomy(r.Writes, markWrite)
		at, _ := wal.At(d, 38)
		all, _ := wal.Prefix(d, 8)
		put, _ := wal.Put(d, r)
		want := aid.Twin(put)
		fillDisk(d)
		aid.Fill(r.Writes, markWrite)
		if !alike(at, of(38)) || !slices.EqualFunc(all, recordsOf(from(9, 40)), alike) || !aid.SameDisk(put, want) {
			t.Errorf("R4: answers follow what was handed in")
		}
		d = roomyDisk(partlySure())
		put, _ = wal.Put(d, of(place))
		fillDisk(put)
		checkDiskRoom(t, "a change of the answer", d, partlySure())
	}
}

func TestAnswersShareNothing(t *testing.T) {
	d := partlySure()
	all, _ := wal.Prefix(d, 8)
	again, _ := wal.Prefix(d, 8)
	at, _ := wal.At(d, 38)
	atAgain, _ := wal.At(d, 38)
	for _, r := range again {
		aid.Fill(r.Writes, markWrite)
	}
	aid.Fill(again, api.Record{})
	aid.Fill(atAgain.Writes, markWrite)
	if !slices.EqualFunc(all, recordsOf(from(9, 40)), alike) || !alike(at, of(38)) {
		t.Error("R4: two answers share memory")
	}
	for i := range all {
		aid.Fill(all[i].Writes, markWrite)
		if !slices.EqualFunc(all[i+1:], recordsOf(from(9+i+1, 40)), alike) {
			t.Errorf("R4: record %d of a prefix shares memory with a later one", i)
		}
	}
	one, _ := wal.Put(d, of(500))
	other, _ := wal.Put(d, of(500))
	want := aid.Twin(one)
	fillDisk(other)
	if !aid.SameDisk(one, want) {
		t.Error("R4: two answers of Put share memory")
	}
	aid.Fill(one.Now, markSector)
	if !slices.Equal(one.Sure, want.Sure) {
		t.Error("R4: the rows of an answer share memory")
	}
}
