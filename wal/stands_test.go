package wal_test

import (
	"strings"
	"testing"

	"flume/api"
	"flume/disk"
)

func TestAtWhatStands(t *testing.T) {
	for _, r := range rightRecords() {
		d := disk.New()
		lay(d, r)
		checkAt(t, "P6.1", d, r.Place, r)
		for i := range 33 {
			if i != r.Place%round {
				d.Now[i] = api.Sector{N: 7, B: "other"}
			}
		}
		checkAt(t, "P6.1, amid others", d, r.Place, r)
	}
	d := laid(from(1, 32)...)
	for place := 1; place <= 32; place++ {
		checkAt(t, "P6.1, on a full round", d, place, of(place))
		checkNotAt(t, "P6.1, on a full round", d, place+32)
		checkNotAt(t, "P6.1, on a full round", d, place+64)
		checkNotAt(t, "P6.1, on a full round", d, place+1<<19)
	}
}

func TestAtTellsWhatStandsNotWhatIsSure(t *testing.T) {
	d := laid(5, 6)
	d.Sure[5] = api.Sector{N: 5, B: entry(other(5))}
	checkAt(t, "P6.1", d, 5, of(5))
	checkAt(t, "P6.1, not sure", d, 6, of(6))
	d.Now[5] = api.Sector{N: 37, B: entry(of(37))}
	checkNotAt(t, "P6.1, only sure", d, 5)
	checkAt(t, "P6.1, over a sure one", d, 37, of(37))
	d.Now[5], d.Sure[5] = api.Sector{N: 5, B: "x"}, api.Sector{N: 5, B: entry(of(5))}
	checkNotAt(t, "P6.1, only sure", d, 5)
}

func TestNoneStands(t *testing.T) {
	const place = 70021
	right := entry(of(place))
	at := place % round
	for name, s := range map[string]api.Sector{
		"nothing":                             {},
		"no bytes":                            {N: place},
		"the number of the place ahead":       {N: place - 1, B: right},
		"the number of the place behind":      {N: place + 1, B: right},
		"the number of a round ahead":         {N: place - 32, B: right},
		"the number of a round behind":        {N: place + 32, B: right},
		"number 1":                            {N: 1, B: right},
		"the record of a round ahead":         {N: place - 32, B: entry(of(place - 32))},
		"the record of a round behind":        {N: place + 32, B: entry(of(place + 32))},
		"bytes that are no frame":             {N: place, B: "x"},
		"many bytes that are no frame":        {N: place, B: strings.Repeat("x", longest)},
		"the record's bytes without a frame":  {N: place, B: load(of(place))},
		"a frame without its last byte":       {N: place, B: right[:len(right)-1]},
		"a frame with a byte more":            {N: place, B: right + "\x00"},
		"a frame with a bit turned":           {N: place, B: turned(right, 13, 1)},
		"a frame of the place ahead":          {N: place, B: framed(place-1, load(of(place)))},
		"a frame of the place behind":         {N: place, B: framed(place+1, load(of(place)))},
		"a frame of a round ahead":            {N: place, B: framed(place-32, load(of(place)))},
		"a frame of number 1":                 {N: place, B: framed(1, load(of(place)))},
		"another place's number and frame":    {N: place + 32, B: framed(place+32, load(of(place)))},
		"a frame of nothing":                  {N: place, B: framed(place, "")},
		"a load that is no record":            {N: place, B: framed(place, "load")},
		"a great load that is no record":      {N: place, B: framed(place, strings.Repeat("\x01", 600))},
		"a record without its last byte":      {N: place, B: framed(place, load(of(place))[:len(load(of(place)))-1])},
		"a record with a byte more":           {N: place, B: framed(place, load(of(place))+"\x00")},
		"a record that may not be":            {N: place, B: framed(place, load(api.Record{Place: place, Yes: true, Writes: writes(3, 7, 3, 8)}))},
		"a no with writes":                    {N: place, B: framed(place, load(api.Record{Place: place, Writes: writes(3, 7)}))},
		"a record of place 0":                 {N: place, B: framed(place, load(api.Record{}))},
		"a record of the place ahead":         {N: place, B: framed(place, load(of(place-1)))},
		"a record of the place behind":        {N: place, B: framed(place, load(of(place+1)))},
		"a record of a round ahead":           {N: place, B: framed(place, load(of(place-32)))},
		"a record of a round behind":          {N: place, B: framed(place, load(of(place+32)))},
		"a frame and record of a round ahead": {N: place, B: entry(of(place - 32))},
	} {
		d := disk.New()
		d.Now[at] = s
		checkNotAt(t, "P6.1: "+name, d, place)
		checkPrefix(t, "P6.2: "+name, d, place-1, nil)
		lay(d, of(place-1))
		lay(d, of(place+1))
		checkPrefix(t, "P6.2: behind another one, "+name, d, place-2, recordsOf([]int{place - 1}))
	}
}

func TestOfAnotherPlaceThatStandsNone(t *testing.T) {
	d := disk.New() // the sector's number is its frame's and its record's, but the sector is another place's
	for _, i := range []int{0, 4, 6, 31, 32} {
		d.Now[i] = api.Sector{N: 5, B: entry(of(5))}
	}
	for _, place := range []int{4, 5, 6, 31, 32, 36, 38, 63, 64} {
		checkNotAt(t, "P6.1: in another sector", d, place)
	}
	for _, place := range []int{32, 64} { // the checkpoint's sector is of no place
		d = disk.New()
		d.Now[32] = api.Sector{N: place, B: entry(of(place))}
		checkNotAt(t, "P6.1: in the checkpoint's sector", d, place)
		checkPrefix(t, "P6.2: in the checkpoint's sector", d, place-1, nil)
	}
}

func TestAtWhatIsNoPlace(t *testing.T) {
	d := laid(from(1, 32)...)
	for _, place := range append([]int{0}, noPlaces...) {
		checkNotAt(t, "P6.1", disk.New(), place)
		checkNotAt(t, "P6.1", d, place)
	}
	d.Now[0] = api.Sector{}
	checkNotAt(t, "P6.1", d, 0)
}

func TestAtOnADiskThatMayNotBe(t *testing.T) {
	for name, d := range wrongDisks() {
		for place := -1; place <= 40; place++ {
			checkNotAt(t, "P6.1, on a disk with "+name, d, place)
		}
	}
}

// turned answers b with bits of the byte at i turned.
func turned(b string, i int, bits byte) string {
	other := []byte(b)
	other[i] ^= bits
	return string(other)
}

func TestAtEveryTurnedByte(t *testing.T) {
	for _, r := range []api.Record{of(1), of(7), of(35), other(greatest)} {
		d := disk.New()
		at := r.Place % round
		for i := range entry(r) {
			for _, bits := range []byte{1, 2, 128, 255} {
				d.Now[at] = api.Sector{N: r.Place, B: turned(entry(r), i, bits)}
				checkNotAt(t, "P6.1: a frame that is turned", d, r.Place)
			}
		}
		for i := range load(r) {
			for bits := range 255 { // framed rightly
				d.Now[at] = api.Sector{N: r.Place, B: framed(r.Place, turned(load(r), i, byte(bits+1)))}
				if want, ok := plainAt(d, r.Place); ok {
					checkAt(t, "P6.1: another load", d, r.Place, want)
				} else {
					checkNotAt(t, "P6.1: another load", d, r.Place)
				}
			}
		}
	}
}
