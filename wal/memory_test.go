package wal_test

import (
	"slices"
	"testing"

	"flume/api"
	"flume/wal"
)

// roomy answers a copy of l with marked ones in the room behind it.
func roomy[T any](l []T, mark T) []T {
	all := append(slices.Clone(l), slices.Repeat([]T{mark}, 40)...)
	return all[:len(l)]
}

// checkRoom looks whether l, and the room behind it, is as roomy left it.
func checkRoom[T comparable](t *testing.T, what string, l, want []T, mark T) {
	t.Helper()
	if !slices.Equal(l, want) {
		t.Errorf("R4: %s changed what was handed in", what)
	}
	for _, v := range l[len(l):cap(l)][:40] {
		if v != mark {
			t.Errorf("R4: %s wrote %v into spare room", what, v)
			return
		}
	}
}

// fill puts mark in all of l, and in the room behind it.
func fill[T any](l []T, mark T) {
	all := l[:cap(l)]
	for i := range all {
		all[i] = mark
	}
}

var (
	markWrite  = api.Write{Key: 77, Value: 78}
	markSector = api.Sector{N: 3, B: "spare"}
)

func roomyDisk(d api.Disk) api.Disk {
	return api.Disk{Now: roomy(d.Now, markSector), Sure: roomy(d.Sure, markSector)}
}

func checkDiskRoom(t *testing.T, what string, d, want api.Disk) {
	t.Helper()
	checkRoom(t, what, d.Now, want.Now, markSector)
	checkRoom(t, what, d.Sure, want.Sure, markSector)
}

func fillDisk(d api.Disk) {
	fill(d.Now, markSector)
	fill(d.Sure, markSector)
}

// partlySure answers a disk on which 9 to 40 stand, and some of them are sure.
func partlySure() api.Disk {
	d := laid(from(1, 40)...)
	copy(d.Sure[3:20], d.Now[3:20])
	return d
}

func TestNothingHandedInIsChanged(t *testing.T) {
	for _, place := range []int{1, 8, 9, 40, 41, 64, 500, greatest, 0, -1, greatest + 1} {
		d := roomyDisk(partlySure())
		r := of(max(place, 0))
		r.Place = place
		want := slices.Clone(r.Writes)
		r.Writes = roomy(r.Writes, markWrite)
		wal.At(d, place)
		wal.Prefix(d, place)
		wal.Entry(r)
		wal.Put(d, r)
		checkDiskRoom(t, "asking", d, partlySure())
		checkRoom(t, "asking", r.Writes, want, markWrite)
	}
}

func TestAnswersAreNewMemory(t *testing.T) {
	for _, place := range []int{9, 40, 41, 500} { // of 9 and 40 the put is fenced
		d := roomyDisk(partlySure())
		r := of(place)
		r.Writes = roomy(r.Writes, markWrite)
		at, _ := wal.At(d, 38)
		all, _ := wal.Prefix(d, 8)
		put, _ := wal.Put(d, r)
		want := twin(put)
		fillDisk(d)
		fill(r.Writes, markWrite)
		if !alike(at, of(38)) || !slices.EqualFunc(all, recordsOf(from(9, 40)), alike) || !sameDisk(put, want) {
			t.Errorf("R4: answers follow what was handed in")
		}
		d = roomyDisk(partlySure())
		put, _ = wal.Put(d, of(place))
		fillDisk(put)
		checkDiskRoom(t, "a change of the answer", d, partlySure())
	}
}

func TestAnswersShareNothing(t *testing.T) {
	d := partlySure()
	all, _ := wal.Prefix(d, 8)
	again, _ := wal.Prefix(d, 8)
	at, _ := wal.At(d, 38)
	atAgain, _ := wal.At(d, 38)
	for _, r := range again {
		fill(r.Writes, markWrite)
	}
	fill(again, api.Record{})
	fill(atAgain.Writes, markWrite)
	if !slices.EqualFunc(all, recordsOf(from(9, 40)), alike) || !alike(at, of(38)) {
		t.Error("R4: two answers share memory")
	}
	for i := range all {
		fill(all[i].Writes, markWrite)
		if !slices.EqualFunc(all[i+1:], recordsOf(from(9+i+1, 40)), alike) {
			t.Errorf("R4: record %d of a prefix shares memory with a later one", i)
		}
	}
	one, _ := wal.Put(d, of(500))
	other, _ := wal.Put(d, of(500))
	want := twin(one)
	fillDisk(other)
	if !sameDisk(one, want) {
		t.Error("R4: two answers of Put share memory")
	}
	fill(one.Now, markSector)
	if !slices.Equal(one.Sure, want.Sure) {
		t.Error("R4: the rows of an answer share memory")
	}
}
