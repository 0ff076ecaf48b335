package aid

import (
	"slices"

	"flume/api"
	"flume/disk"
)

// AllLost is a crash that loses every sector.
const AllLost = 1<<api.Sectors - 1

// Crashes answers crashes of every kind: nothing lost, everything, one sector, all but one, some.
func Crashes() []uint64 {
	all := []uint64{0, AllLost, 0x155555555, 0x0AAAAAAAA, 0x0000FFFF, 0x1FFFF0000}
	for i := range api.Sectors {
		all = append(all, 1<<i, AllLost&^(1<<i))
	}
	return all
}

// Synced answers d, synced.
func Synced(t Teller, d api.Disk) api.Disk {
	t.Helper()
	left, e := disk.Sync(d)
	if e != api.OK {
		t.Errorf("Sync is %v", e)
	}
	return left
}

// Crashed answers what a crash leaves of d.
func Crashed(t Teller, d api.Disk, lost uint64) api.Disk {
	t.Helper()
	left, e := disk.Crash(d, lost)
	if e != api.OK {
		t.Errorf("Crash is %v", e)
	}
	return left
}

// Twin answers d in memory of its own.
func Twin(d api.Disk) api.Disk {
	return api.Disk{Now: slices.Clone(d.Now), Sure: slices.Clone(d.Sure)}
}

// SameDisk holds disks against each other without their package.
func SameDisk(a, b api.Disk) bool {
	return slices.Equal(a.Now, b.Now) && slices.Equal(a.Sure, b.Sure)
}
