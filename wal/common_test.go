package wal_test

import (
	"encoding/binary"
	"hash/crc32"
	"math"
	"slices"
	"strings"
	"testing"

	"flume/aid"
	"flume/api"
	"flume/disk"
	"flume/wal"
)

const (
	greatest = 1048575 // of places
	round    = 32      // sectors of the log
	longest  = 640     // bytes of a sector
)

// noPlaces are numbers that are neither 0 nor a place: just past the bounds, far beyond, and such that fewer bits would make a place of them.
var noPlaces = []int{
	-1, -2, -31, -32, -33, -greatest, greatest + 1, greatest + 2, greatest + 33, 1<<24 + 5, 1<<32 + 5, 5 - 1<<32,
	math.MinInt, math.MinInt + 1, math.MaxInt - 31, math.MaxInt - 1, math.MaxInt,
}

// writes answers writes of a key and a value each.
func writes(numbers ...int) []api.Write {
	var l []api.Write
	for i := 0; i < len(numbers); i += 2 {
		l = append(l, api.Write{Key: numbers[i], Value: numbers[i+1]})
	}
	return l
}

// of answers a record of the place, other ones for places next to each other.
func of(place int) api.Record {
	r := api.Record{Place: place, Yes: place%5 != 0}
	if r.Yes {
		r.Writes = writes(0, place%256, 5, 0, 6, place/256%256, 23, 255)[:place%4+1]
	}
	return r
}

// other answers another record of the same place.
func other(place int) api.Record {
	return api.Record{Place: place, Yes: true, Writes: writes(9, 9)}
}

// load answers the record's bytes, as chapter 5 tells them.
func load(r api.Record) string {
	b := []byte{byte(r.Place), byte(r.Place / 256), byte(r.Place / 65536), 0, byte(len(r.Writes))}
	if r.Yes {
		b[3] = 1
	}
	for _, w := range r.Writes {
		b = append(b, byte(w.Key), byte(w.Value))
	}
	return string(b)
}

// framed answers the frame of the number and the load, as chapter 4 tells it.
func framed(number int, load string) string {
	b := binary.LittleEndian.AppendUint64(nil, uint64(number))[:6]
	b = binary.LittleEndian.AppendUint16(b, uint16(len(load)))
	b = append(b, load...)
	return string(binary.LittleEndian.AppendUint32(b, crc32.ChecksumIEEE(b)))
}

// entry answers the record's frame.
func entry(r api.Record) string {
	return framed(r.Place, load(r))
}

// lay puts the record into what stands, without the package.
func lay(d api.Disk, r api.Record) {
	d.Now[r.Place%round] = api.Sector{N: r.Place, B: entry(r)}
}

// laid answers a disk on which the records of these places stand.
func laid(places ...int) api.Disk {
	d := disk.New()
	for _, place := range places {
		lay(d, of(place))
	}
	return d
}

// from answers the places from low to high.
func from(low, high int) []int {
	var all []int
	for place := low; place <= high; place++ {
		all = append(all, place)
	}
	return all
}

// recordsOf answers the places' records.
func recordsOf(places []int) []api.Record {
	var all []api.Record
	for _, place := range places {
		all = append(all, of(place))
	}
	return all
}

// plainAt tells what stands at the place, as the chapter does: it seeks the writes' bytes, and lays what they tell anew.
func plainAt(d api.Disk, place int) (api.Record, bool) {
	if place < 1 || place > greatest {
		return api.Record{}, false
	}
	s := d.Now[place%round]
	if s.N != place || len(s.B) < 17 {
		return api.Record{}, false
	}
	r := api.Record{Place: place, Yes: s.B[11] == 1}
	for i := 13; i+5 < len(s.B); i += 2 {
		r.Writes = append(r.Writes, api.Write{Key: int(s.B[i]), Value: int(s.B[i+1])})
	}
	if !plainMay(r) || entry(r) != s.B {
		return api.Record{}, false
	}
	return r, true
}

func plainMay(r api.Record) bool {
	if r.Place < 1 || r.Place > greatest || len(r.Writes) > 4 || !r.Yes && len(r.Writes) > 0 {
		return false
	}
	least := 0
	for _, w := range r.Writes {
		if w.Key < least || w.Key > 23 || w.Value < 0 || w.Value > 255 {
			return false
		}
		least = w.Key + 1
	}
	return true
}

// plainPrefix tells the prefix behind the place, as the chapter does.
func plainPrefix(d api.Disk, behind int) []api.Record {
	var all []api.Record
	for place := behind + 1; len(all) < round; place++ {
		r, ok := plainAt(d, place)
		if !ok {
			break
		}
		all = append(all, r)
	}
	return all
}

// alike holds records against each other without the packages.
func alike(a, b api.Record) bool {
	return a.Place == b.Place && a.Yes == b.Yes && slices.Equal(a.Writes, b.Writes)
}

func checkAt(t *testing.T, what string, d api.Disk, place int, want api.Record) {
	t.Helper()
	if r, ok := wal.At(d, place); !ok || !alike(r, want) {
		t.Errorf("%s: At %d is %v, %t; asked is %v", what, place, r, ok, want)
	}
}

func checkNotAt(t *testing.T, what string, d api.Disk, place int) {
	t.Helper()
	if r, ok := wal.At(d, place); ok || !alike(r, api.Record{}) {
		t.Errorf("%s: At %d is %v, %t; asked is false alone", what, place, r, ok)
	}
}

func checkPrefix(t *testing.T, what string, d api.Disk, behind int, want []api.Record) {
	t.Helper()
	got, e := wal.Prefix(d, behind)
	if e != api.OK || !slices.EqualFunc(got, want, alike) {
		t.Errorf("%s: Prefix behind %d is %v, %v; asked is %v", what, behind, got, e, want)
	}
}

func checkPrefixRefused(t *testing.T, what string, d api.Disk, behind int) {
	t.Helper()
	if got, e := wal.Prefix(d, behind); e != api.ErrArg || len(got) != 0 {
		t.Errorf("%s: Prefix behind %d is %v, %v; asked is ErrArg alone", what, behind, got, e)
	}
}

// checkPut holds Put against what both rows have to be.
func checkPut(t *testing.T, what string, d api.Disk, r api.Record, want api.Disk) {
	t.Helper()
	if got, e := wal.Put(d, r); e != api.OK || !aid.SameDisk(got, want) {
		t.Errorf("%s: Put of place %d is %v, or its sectors are others", what, r.Place, e)
	}
}

func checkPutRefused(t *testing.T, what string, d api.Disk, r api.Record) {
	t.Helper()
	if got, e := wal.Put(d, r); e != api.ErrArg || len(got.Now) != 0 || len(got.Sure) != 0 {
		t.Errorf("%s: Put is %v beside rows of %d and %d; asked is ErrArg alone", what, e, len(got.Now), len(got.Sure))
	}
}

// wrongDisks answers disks that may not be, on which places 1 to 20 stand else.
func wrongDisks() map[string]api.Disk {
	all := map[string]api.Disk{"nothing": {}, "no sure row": {Now: laid(from(1, 20)...).Now}, "no row that stands": {Sure: laid(from(1, 20)...).Now}}
	change := func(name string, how func(d *api.Disk)) {
		d := laid(from(1, 20)...)
		how(&d)
		all[name] = d
	}
	change("a sector fewer", func(d *api.Disk) { d.Now, d.Sure = d.Now[:round], d.Sure[:round] })
	change("a sector more", func(d *api.Disk) { d.Now, d.Sure = append(d.Now, api.Sector{}), append(d.Sure, api.Sector{}) })
	change("a sector more stands", func(d *api.Disk) { d.Now = append(d.Now, api.Sector{}) })
	for name, i := range map[string]int{" in a place's sector": 1, " in a later sector": 31, " in the checkpoint's": 32} {
		change("a number below 0"+name, func(d *api.Disk) { d.Now[i].N, d.Sure[i].N = -1, -1 })
		change("a number past the greatest"+name, func(d *api.Disk) { d.Now[i].N = greatest + 1 })
		change("bytes of number 0"+name, func(d *api.Disk) { d.Now[i] = api.Sector{B: "x"} })
		change("too many bytes"+name, func(d *api.Disk) { d.Now[i] = api.Sector{N: 40, B: strings.Repeat("x", longest+1)} })
		change("sure above what stands"+name, func(d *api.Disk) { d.Sure[i] = api.Sector{N: 99, B: "x"} })
	}
	return all
}

// wrongRecords answers records that may not be.
func wrongRecords() map[string]api.Record {
	all := map[string]api.Record{"nothing": {}, "a no with writes": {Place: 5, Writes: writes(3, 7)}}
	for name, l := range map[string][]api.Write{
		"five writes":      writes(0, 0, 1, 0, 2, 0, 3, 0, 4, 0),
		"a key twice":      writes(3, 7, 3, 8),
		"keys that fall":   writes(4, 7, 3, 8),
		"a key below 0":    writes(-1, 7),
		"no such key":      writes(24, 7),
		"a value below 0":  writes(3, -1),
		"no such value":    writes(3, 256),
		"a key of 9 bits":  writes(256+3, 7),
		"a great value":    writes(3, 1<<32),
		"many writes more": make([]api.Write, 1000),
	} {
		all[name] = api.Record{Place: 5, Yes: true, Writes: l}
	}
	for _, place := range append([]int{0}, noPlaces...) {
		all["of place "+api.Errno(place).Error()] = api.Record{Place: place, Yes: true, Writes: writes(3, 7)}
		all["a no of place "+api.Errno(place).Error()] = api.Record{Place: place}
	}
	return all
}
