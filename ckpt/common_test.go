package ckpt_test

import (
	"encoding/binary"
	"hash/crc32"
	"math"
	"slices"
	"strconv"
	"strings"
	"testing"

	"flume/aid"
	"flume/api"
	"flume/ckpt"
	"flume/disk"
)

const (
	greatest   = 1048575 // of numbers
	sector     = 32      // the checkpoint's
	longest    = 640     // bytes of a sector
	lastOffset = 4194303
)

// noNumbers are numbers of no checkpoint: just past the bounds, far beyond, and such that fewer bits would make one of them.
var noNumbers = []int{
	0, -1, -2, -32, -greatest, greatest + 1, greatest + 2, greatest + 33, 1<<24 + 5, 1<<32 + 5, 5 - 1<<32, 1<<48 + 5,
	math.MinInt, math.MinInt + 1, math.MaxInt - 1, math.MaxInt,
}

// of answers a state of the place, other ones for places next to each other.
func of(place int) api.State {
	s := api.State{Place: place}
	for key := place % 5; key < 24; key += 1 + place%7 {
		if p := place - key%3; p > 0 {
			s.Items = append(s.Items, api.Item{Key: key, Place: p, Value: (place + key) % 256})
		}
	}
	for q := range s.Lines {
		s.Cut[q] = max(0, place-8+q)
		for p := s.Cut[q] + 1; p <= place-q; p++ {
			l := api.Line{Offset: place + p - s.Cut[q], Place: p, J: p % 4, Key: place % 8, Value: p % 256}
			s.Lines[q] = append(s.Lines[q], l)
		}
	}
	return s
}

// other answers another state of the same place.
func other(place int) api.State {
	s := api.State{Place: place, Cut: [3]int{0, place, place / 2}}
	if place > 0 {
		s.Items = []api.Item{{Key: 23, Place: place, Value: 255}}
		s.Lines[2] = []api.Line{{Offset: lastOffset, Place: place, J: 3, Key: 7, Value: 255}}
	}
	return s
}

// full answers the state of the most bytes.
func full() api.State {
	s := api.State{Place: greatest}
	for key := range 24 {
		s.Items = append(s.Items, api.Item{Key: key, Place: greatest, Value: 255})
	}
	for q := range s.Lines {
		for i := range 16 {
			l := api.Line{Offset: lastOffset - 15 + i, Place: greatest - 3 + i/4, J: i % 4, Key: 7, Value: 255}
			s.Lines[q] = append(s.Lines[q], l)
		}
		s.Cut[q] = greatest - 4
	}
	return s
}

// pair is a number, and a state with it.
type pair struct {
	n int
	s api.State
}

// rights answers numbers and states of checkpoints.
func rights() []pair {
	all := []pair{{greatest, full()}, {1, api.State{Items: []api.Item{}, Lines: [3][]api.Line{{}, {}, {}}}}}
	for _, n := range []int{1, 2, 3, 31, 32, 33, 255, 256, 257, 65535, 65536, 70000, greatest - 1, greatest} {
		for _, place := range []int{n, n - 1, n / 2, 1, 0} {
			all = append(all, pair{n, of(place)}, pair{n, other(place)}, pair{n, api.State{Place: place}})
		}
	}
	return all
}

// three answers the three bytes of n.
func three(n int) []byte {
	return []byte{byte(n), byte(n / 256), byte(n / 65536)}
}

// load answers the state's bytes, as chapter 5 tells them.
func load(s api.State) string {
	b := append(three(s.Place), byte(len(s.Items)))
	for _, i := range s.Items {
		b = append(append(append(b, byte(i.Key)), three(i.Place)...), byte(i.Value))
	}
	for q, lines := range s.Lines {
		b = append(append(b, three(s.Cut[q])...), byte(len(lines)))
		first := 0
		if len(lines) > 0 {
			first = lines[0].Offset
		}
		b = append(b, three(first)...)
		for _, l := range lines {
			b = append(append(b, three(l.Place)...), byte(l.J+16*l.Key), byte(l.Value))
		}
	}
	return string(b)
}

// framed answers the frame of the number and the load, as chapter 4 tells it.
func framed(number int, load string) string {
	b := binary.LittleEndian.AppendUint64(nil, uint64(number))[:6]
	b = binary.LittleEndian.AppendUint16(b, uint16(len(load)))
	b = append(b, load...)
	return string(binary.LittleEndian.AppendUint32(b, crc32.ChecksumIEEE(b)))
}

// holds answers a sector of the number with the state's frame.
func holds(n int, s api.State) api.Sector {
	return api.Sector{N: n, B: framed(n, load(s))}
}

// busy answers a disk whose sectors, but the checkpoint's, have something that is sure, or is not.
func busy() api.Disk {
	d := disk.New()
	for i := range sector {
		d.Now[i] = api.Sector{N: 100 + i, B: "stands in " + strconv.Itoa(i)}
		switch i % 3 {
		case 0:
			d.Sure[i] = d.Now[i]
		case 1:
			d.Sure[i] = api.Sector{N: 68 + i, B: "sure in " + strconv.Itoa(i)}
		}
	}
	return d
}

// with answers d with these in the checkpoint's sector.
func with(d api.Disk, stands, sure api.Sector) api.Disk {
	d = aid.Twin(d)
	d.Now[sector], d.Sure[sector] = stands, sure
	return d
}

// plainRead tells what checkpoint is in s, as the chapter does: it seeks the state's bytes, and lays what they tell anew.
func plainRead(s api.Sector) (api.State, bool) {
	if s.N < 1 || s.N > greatest || len(s.B) < 37 {
		return api.State{}, false
	}
	b := s.B[8 : len(s.B)-4]
	next := func(width int) int {
		n := 0
		for i := range min(width, len(b)) {
			n += int(b[i]) << (8 * i)
		}
		b = b[min(width, len(b)):]
		return n
	}
	state := api.State{Place: next(3)}
	for range next(1) {
		state.Items = append(state.Items, api.Item{Key: next(1), Place: next(3), Value: next(1)})
	}
	for q := range state.Lines {
		state.Cut[q] = next(3)
		many := next(1)
		first := next(3)
		for i := range many {
			place, both, value := next(3), next(1), next(1)
			state.Lines[q] = append(state.Lines[q], api.Line{Offset: first + i, Place: place, J: both % 16, Key: both / 16, Value: value})
		}
	}
	if !plainStands(state) || state.Place > s.N || framed(s.N, load(state)) != s.B {
		return api.State{}, false
	}
	return state, true
}

// plainStands tells whether a state that was read may be, as chapter 5 tells it.
func plainStands(s api.State) bool {
	if s.Place > greatest {
		return false
	}
	least := 0
	for _, i := range s.Items {
		if i.Key < least || i.Key > 23 || i.Place < 1 || i.Place > s.Place {
			return false
		}
		least = i.Key + 1
	}
	for q, lines := range s.Lines {
		ahead := 4*s.Cut[q] + 3 // the last (Place, J) that has to be below
		if s.Cut[q] > s.Place || len(lines) > 16 {
			return false
		}
		for _, l := range lines {
			if l.Offset > lastOffset || l.Place > s.Place || l.J > 3 || l.Key > 7 || 4*l.Place+l.J <= ahead {
				return false
			}
			ahead = 4*l.Place + l.J
		}
	}
	return true
}

// alike holds states against each other without the packages.
func alike(a, b api.State) bool {
	for q := range a.Lines {
		if !slices.Equal(a.Lines[q], b.Lines[q]) {
			return false
		}
	}
	return a.Place == b.Place && a.Cut == b.Cut && slices.Equal(a.Items, b.Items)
}

// isNothing tells whether s is zero, as it has to be beside an error.
func isNothing(s api.State) bool {
	return alike(s, api.State{})
}

func checkRead(t *testing.T, what string, d api.Disk, n int, want api.State) {
	t.Helper()
	if number, s, e := ckpt.Read(d); number != n || e != api.OK || !alike(s, want) {
		t.Errorf("%s: Read is %d, %v, %v; asked is %d, %v", what, number, s, e, n, want)
	}
}

func checkReadRefused(t *testing.T, what string, d api.Disk, want api.Errno) {
	t.Helper()
	if n, s, e := ckpt.Read(d); n != 0 || e != want || !isNothing(s) {
		t.Errorf("%s: Read is %d, %v, %v; asked is %v alone", what, n, s, e, want)
	}
}

// checkPut holds Put against what both rows have to be.
func checkPut(t *testing.T, what string, d api.Disk, p pair, want api.Disk) {
	t.Helper()
	if got, e := ckpt.Put(d, p.n, p.s); e != api.OK || !aid.SameDisk(got, want) {
		t.Errorf("%s: Put of number %d is %v, or its sectors are others", what, p.n, e)
	}
}

func checkPutRefused(t *testing.T, what string, d api.Disk, p pair) {
	t.Helper()
	if got, e := ckpt.Put(d, p.n, p.s); e != api.ErrArg || len(got.Now) != 0 || len(got.Sure) != 0 {
		t.Errorf("%s: Put is %v beside rows of %d and %d; asked is ErrArg alone", what, e, len(got.Now), len(got.Sure))
	}
}

// wrongDisks answers disks that may not be, else with these in the checkpoint's sector.
func wrongDisks(stands, sure api.Sector) map[string]api.Disk {
	right := func() api.Disk { return with(busy(), stands, sure) }
	all := map[string]api.Disk{"nothing": {}, "empty rows": {Now: []api.Sector{}, Sure: []api.Sector{}}, "no sure row": {Now: right().Now}, "no row that stands": {Sure: right().Sure}}
	change := func(name string, how func(d *api.Disk)) {
		d := right()
		how(&d)
		all[name] = d
	}
	change("a sector fewer stands", func(d *api.Disk) { d.Now = d.Now[:sector] })
	change("a sector fewer is sure", func(d *api.Disk) { d.Sure = d.Sure[:sector] })
	change("a sector fewer", func(d *api.Disk) { d.Now, d.Sure = d.Now[:sector], d.Sure[:sector] })
	change("a sector more", func(d *api.Disk) { d.Now, d.Sure = append(d.Now, api.Sector{}), append(d.Sure, api.Sector{}) })
	change("a sector more stands", func(d *api.Disk) { d.Now = append(d.Now, api.Sector{}) })
	change("a sector more is sure", func(d *api.Disk) { d.Sure = append(d.Sure, api.Sector{}) })
	for _, i := range []int{0, 5, 31, sector} {
		at := " in sector " + strconv.Itoa(i)
		change("a number below 0"+at, func(d *api.Disk) { d.Now[i].N, d.Sure[i].N = -1, -1 })
		change("a sure number below 0"+at, func(d *api.Disk) { d.Sure[i].N = -1 })
		change("a number past the greatest"+at, func(d *api.Disk) { d.Now[i].N = greatest + 1 })
		change("bytes of number 0"+at, func(d *api.Disk) { d.Now[i], d.Sure[i] = api.Sector{B: "x"}, api.Sector{} })
		change("sure bytes of number 0"+at, func(d *api.Disk) { d.Sure[i] = api.Sector{B: "x"} })
		change("too many bytes"+at, func(d *api.Disk) { d.Now[i] = api.Sector{N: greatest, B: strings.Repeat("x", longest+1)} })
		change("too many sure bytes"+at, func(d *api.Disk) {
			d.Now[i], d.Sure[i] = api.Sector{N: greatest, B: "x"}, api.Sector{N: 1, B: strings.Repeat("x", longest+1)}
		})
		change("sure above what stands"+at, func(d *api.Disk) { d.Sure[i] = api.Sector{N: d.Now[i].N + 1, B: "x"} })
	}
	return all
}

// wrongStates answers states of places up to 40 that may not be.
func wrongStates() map[string]api.State {
	all := map[string]api.State{}
	change := func(name string, how func(s *api.State)) {
		s := of(40)
		how(&s)
		all[name] = s
	}
	for _, place := range noNumbers {
		if place != 0 {
			all["nothing of place "+strconv.Itoa(place)] = api.State{Place: place}
			change("place "+strconv.Itoa(place), func(s *api.State) { s.Place = place })
		}
	}
	change("an item above its place", func(s *api.State) { s.Items[1].Place = 41 })
	change("an item of place 0", func(s *api.State) { s.Items[1].Place = 0 })
	change("an item's key below 0", func(s *api.State) { s.Items[0].Key = -1 })
	change("an item's key past the last", func(s *api.State) { s.Items[len(s.Items)-1].Key = 24 })
	change("an item's key twice", func(s *api.State) { s.Items[1].Key = s.Items[0].Key })
	change("an item's value below 0", func(s *api.State) { s.Items[1].Value = -1 })
	change("an item's value past the greatest", func(s *api.State) { s.Items[1].Value = 256 })
	change("many items", func(s *api.State) { s.Items = slices.Repeat(s.Items, 1000) })
	for q := range 3 {
		in := " in partition " + strconv.Itoa(q)
		change("too many lines"+in, func(s *api.State) {
			s.Lines[q], s.Cut[q] = nil, 0
			for i := range 17 {
				s.Lines[q] = append(s.Lines[q], api.Line{Offset: i, Place: i + 1})
			}
		})
		change("a line above its place"+in, func(s *api.State) { s.Lines[q][len(s.Lines[q])-1].Place = 41 })
		change("an offset twice"+in, func(s *api.State) { s.Lines[q][1].Offset-- })
		change("offsets past the last"+in, func(s *api.State) {
			for i := range s.Lines[q] {
				s.Lines[q][i].Offset = lastOffset + i
			}
		})
		change("a line twice"+in, func(s *api.State) { s.Lines[q][1].Place, s.Lines[q][1].J = s.Lines[q][0].Place, s.Lines[q][0].J })
		change("a line's J"+in, func(s *api.State) { s.Lines[q][1].J = 4 })
		change("a line's key"+in, func(s *api.State) { s.Lines[q][1].Key = 8 })
		change("a line's value"+in, func(s *api.State) { s.Lines[q][1].Value = 256 })
		change("cut at its first line"+in, func(s *api.State) { s.Cut[q] = s.Lines[q][0].Place })
		change("cut above its place"+in, func(s *api.State) { s.Lines[q], s.Cut[q] = nil, 41 })
		change("cut below 0"+in, func(s *api.State) { s.Cut[q] = -1 })
	}
	return all
}
