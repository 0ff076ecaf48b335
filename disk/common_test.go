package disk_test

import (
	"strconv"
	"strings"
	"testing"

	"flume/api"
	"flume/disk"
)

const (
	last     = 32      // the last sector
	greatest = 1048575 // of numbers
	long     = 640     // bytes of a sector
)

var (
	none    = api.Sector{}
	longB   = strings.Repeat("l", long)
	tooLong = strings.Repeat("l", long+1)
)

// sample answers a disk that may be: sectors that are sure, that are not, that never were put.
func sample() api.Disk {
	d := disk.New()
	d.Now[0], d.Sure[0] = api.Sector{N: 7, B: "seven"}, api.Sector{N: 5, B: "five"}
	d.Now[1] = api.Sector{N: 1, B: "first"}
	d.Now[2], d.Sure[2] = api.Sector{N: 9, B: "nine"}, api.Sector{N: 9, B: "nine"}
	d.Now[31], d.Sure[31] = api.Sector{N: greatest, B: longB}, api.Sector{N: greatest - 1, B: "ahead"}
	d.Now[last], d.Sure[last] = api.Sector{N: 12, B: "twelve"}, api.Sector{N: 11, B: "eleven"}
	return d
}

// wrongs answers disks that may not be, by what is wrong with them.
func wrongs() map[string]api.Disk {
	all := map[string]api.Disk{
		"nothing":            {},
		"empty rows":         {Now: []api.Sector{}, Sure: []api.Sector{}},
		"no sure row":        {Now: sample().Now},
		"no row that stands": {Sure: sample().Sure},
	}
	change := func(name string, how func(d *api.Disk)) {
		d := sample()
		how(&d)
		all[name] = d
	}
	change("a sector fewer stands", func(d *api.Disk) { d.Now = d.Now[:last] })
	change("a sector more stands", func(d *api.Disk) { d.Now = append(d.Now, none) })
	change("a sector fewer is sure", func(d *api.Disk) { d.Sure = d.Sure[:last] })
	change("a sector more is sure", func(d *api.Disk) { d.Sure = append(d.Sure, none) })
	change("a sector fewer in both", func(d *api.Disk) { d.Now, d.Sure = d.Now[:last], d.Sure[:last] })
	change("a sector more in both", func(d *api.Disk) { d.Now, d.Sure = append(d.Now, none), append(d.Sure, none) })
	for _, i := range []int{0, 17, last} {
		at := " in sector " + strconv.Itoa(i)
		change("below 0 stands"+at, func(d *api.Disk) { d.Now[i], d.Sure[i] = api.Sector{N: -1, B: "x"}, api.Sector{N: -1, B: "x"} })
		change("below 0 is sure"+at, func(d *api.Disk) { d.Sure[i] = api.Sector{N: -1} })
		change("past the greatest stands"+at, func(d *api.Disk) { d.Now[i] = api.Sector{N: greatest + 1, B: "x"} })
		change("past the greatest in both"+at, func(d *api.Disk) { d.Now[i], d.Sure[i] = api.Sector{N: greatest + 1}, api.Sector{N: greatest + 1} })
		change("too long stands"+at, func(d *api.Disk) { d.Now[i] = api.Sector{N: 20, B: tooLong} })
		change("too long is sure"+at, func(d *api.Disk) { d.Now[i], d.Sure[i] = api.Sector{N: 20, B: "x"}, api.Sector{N: 20, B: tooLong} })
		change("0 with bytes stands"+at, func(d *api.Disk) { d.Now[i], d.Sure[i] = api.Sector{B: "x"}, none })
		change("0 with bytes is sure"+at, func(d *api.Disk) { d.Sure[i] = api.Sector{B: "x"} })
		change("sure above what stands"+at, func(d *api.Disk) { d.Now[i], d.Sure[i] = api.Sector{N: 3, B: "x"}, api.Sector{N: 4, B: "x"} })
		change("sure above 0"+at, func(d *api.Disk) { d.Now[i], d.Sure[i] = none, api.Sector{N: 1, B: "x"} })
	}
	return all
}

// checkRows holds both rows of d against what is asked.
func checkRows(t *testing.T, what string, d, want api.Disk) {
	t.Helper()
	for _, c := range []struct {
		name      string
		got, want []api.Sector
	}{{"stands", d.Now, want.Now}, {"is sure", d.Sure, want.Sure}} {
		if len(c.got) != len(c.want) {
			t.Errorf("%s: a row of %d sectors, asked is %d", what, len(c.got), len(c.want))
			continue
		}
		for i := range c.got {
			if c.got[i] != c.want[i] {
				t.Errorf("%s: in sector %d %s %d of %d bytes; asked is %d of %d bytes", what, i, c.name, c.got[i].N, len(c.got[i].B), c.want[i].N, len(c.want[i].B))
			}
		}
	}
}

// checkRefused holds an answer with an error against what such an answer has to be.
func checkRefused(t *testing.T, what string, d api.Disk, e api.Errno) {
	t.Helper()
	if e != api.ErrArg || len(d.Now) != 0 || len(d.Sure) != 0 {
		t.Errorf("%s: %v beside rows of %d and %d sectors; asked is ErrArg alone", what, e, len(d.Now), len(d.Sure))
	}
}
