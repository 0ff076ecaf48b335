package ckpt_test

import (
	"strings"
	"testing"

	"flume/api"
	"flume/disk"
)

func TestReadOfANewDisk(t *testing.T) {
	checkReadRefused(t, "P7.2: the chapter's example", disk.New(), api.ErrEmpty)
}

func TestReadWithoutANumber(t *testing.T) {
	checkReadRefused(t, "P7.2: amid others", busy(), api.ErrEmpty)
	for i := range sector { // a checkpoint in another sector is none
		d := disk.New()
		d.Now[i] = holds(7, of(6))
		d.Sure[i] = holds(7, of(6))
		checkReadRefused(t, "P7.2: in another sector", d, api.ErrEmpty)
	}
}

func TestRead(t *testing.T) {
	for _, p := range rights() {
		stands := holds(p.n, p.s)
		for _, sure := range []api.Sector{{}, stands, {N: 1, B: "x"}, {N: p.n, B: "x"}, holds(1, other(0))} {
			checkRead(t, "P7.2", with(disk.New(), stands, sure), p.n, p.s)
			checkRead(t, "P7.2: amid others", with(busy(), stands, sure), p.n, p.s)
		}
	}
}

func TestReadTellsWhatStandsNotWhatIsSure(t *testing.T) {
	d := with(busy(), holds(9, of(9)), holds(8, of(8)))
	checkRead(t, "P7.2: over a sure one", d, 9, of(9))
	d = with(busy(), holds(9, of(9)), holds(9, other(9)))
	checkRead(t, "P7.2: over another sure one", d, 9, of(9))
	d = with(busy(), api.Sector{N: 9, B: "x"}, holds(8, of(8)))
	checkReadRefused(t, "P7.2: over a sure one", d, api.ErrCode)
	d = with(busy(), api.Sector{N: 9, B: "x"}, holds(9, of(9)))
	checkReadRefused(t, "P7.2: over a sure one", d, api.ErrCode)
}

// noCheckpoints answers sectors that have a number, and no checkpoint of it.
func noCheckpoints() map[string]api.Sector {
	const n = 70021
	right := framed(n, load(of(n)))
	all := map[string]api.Sector{
		"no bytes":                           {N: n},
		"bytes that are no frame":            {N: n, B: "x"},
		"many bytes that are no frame":       {N: n, B: strings.Repeat("x", longest)},
		"the state's bytes without a frame":  {N: n, B: load(of(n))},
		"a frame without its last byte":      {N: n, B: right[:len(right)-1]},
		"a frame with a byte more":           {N: n, B: right + "\x00"},
		"a frame ahead of another one":       {N: n, B: right + right},
		"a frame of the number one less":     {N: n, B: framed(n-1, load(of(5)))},
		"a frame of the number one more":     {N: n, B: framed(n+1, load(of(5)))},
		"a frame of number 1":                {N: n, B: framed(1, load(of(0)))},
		"a frame of number 0":                {N: n, B: framed(0, load(of(0)))},
		"a frame of the greatest number":     {N: n, B: framed(greatest, load(of(n)))},
		"a frame of no number":               {N: n, B: framed(1<<32+n, load(of(n)))},
		"a lesser number than its frame's":   {N: n - 1, B: framed(n, load(of(5)))},
		"a greater number than its frame's":  {N: n + 1, B: framed(n, load(of(5)))},
		"the number of its state":            {N: 5, B: framed(n, load(of(5)))},
		"a load of nothing":                  {N: n, B: framed(n, "")},
		"a load that is no state":            {N: n, B: framed(n, "load")},
		"a great load that is no state":      {N: n, B: framed(n, strings.Repeat("\x01", 600))},
		"noughts, one fewer than of a state": {N: n, B: framed(n, strings.Repeat("\x00", 24))},
		"noughts, one more than of a state":  {N: n, B: framed(n, strings.Repeat("\x00", 26))},
		"a state without its last byte":      {N: n, B: framed(n, load(of(5))[:len(load(of(5)))-1])},
		"a state with a byte more":           {N: n, B: framed(n, load(of(5))+"\x00")},
		"a record":                           {N: n, B: framed(n, "\x02\x00\x00\x01\x01\x03\x07")},
		"a state of no place":                {N: greatest, B: framed(greatest, load(api.State{Place: greatest + 1}))},
		"a state that may not be":            {N: n, B: framed(n, load(api.State{Place: 5, Items: []api.Item{{Key: 3, Place: 6}}}))},
		"a cut above the state's place":      {N: n, B: framed(n, load(api.State{Place: 5, Cut: [3]int{0, 6, 0}}))},
		"a state one above the number":       {N: n, B: framed(n, load(of(n+1)))},
		"nothing one above the number":       {N: n, B: framed(n, load(api.State{Place: n + 1}))},
		"a state far above the number":       {N: n, B: framed(n, load(full()))},
		"a state of place 2 at number 1":     {N: 1, B: framed(1, load(api.State{Place: 2}))},
		"a state of the greatest at 1":       {N: 1, B: framed(1, load(api.State{Place: greatest}))},
		"the greatest above the one ahead":   {N: greatest - 1, B: framed(greatest-1, load(of(greatest)))},
	}
	return all
}

func TestReadOfNoCheckpoint(t *testing.T) {
	for name, s := range noCheckpoints() {
		for _, sure := range []api.Sector{{}, s, holds(1, of(1))} {
			checkReadRefused(t, "P7.2: "+name, with(disk.New(), s, sure), api.ErrCode)
			checkReadRefused(t, "P7.2: amid others, "+name, with(busy(), s, sure), api.ErrCode)
		}
	}
}

func TestReadOfADiskThatMayNotBe(t *testing.T) {
	for _, s := range []api.Sector{{}, holds(7, of(6)), {N: 7, B: "x"}} { // ErrArg goes ahead of the others
		for name, d := range wrongDisks(s, api.Sector{}) {
			checkReadRefused(t, "P7.2: a disk with "+name, d, api.ErrArg)
		}
		for name, d := range wrongDisks(s, s) {
			checkReadRefused(t, "P7.2: a disk with "+name, d, api.ErrArg)
		}
	}
}

// turned answers b with bits of the byte at i turned.
func turned(b string, i int, bits byte) string {
	other := []byte(b)
	other[i] ^= bits
	return string(other)
}

func TestReadOfTurnedFrames(t *testing.T) {
	for _, p := range []pair{{1, of(0)}, {7, of(6)}, {70000, of(70000)}, {greatest, other(greatest)}} {
		right := framed(p.n, load(p.s))
		for i := range right {
			for _, bits := range []byte{1, 2, 128, 255} {
				checkReadRefused(t, "P7.2: a frame that is turned", with(disk.New(), api.Sector{N: p.n, B: turned(right, i, bits)}, api.Sector{}), api.ErrCode)
			}
			checkReadRefused(t, "P7.2: a frame that is cut", with(disk.New(), api.Sector{N: p.n, B: right[:i]}, api.Sector{}), api.ErrCode)
		}
	}
}

// checkPlainly holds Read of a disk with s against the chapter's telling.
func checkPlainly(t *testing.T, what string, s api.Sector) {
	t.Helper()
	d := with(disk.New(), s, api.Sector{})
	if want, ok := plainRead(s); ok {
		checkRead(t, what, d, s.N, want)
	} else {
		checkReadRefused(t, what, d, api.ErrCode)
	}
}

func TestReadOfOtherLoads(t *testing.T) {
	for _, p := range []pair{{1, of(0)}, {1, of(1)}, {7, of(6)}, {69, other(69)}, {300, of(300)}} {
		right := load(p.s)
		for i := range right {
			for bits := range 256 { // framed rightly
				checkPlainly(t, "P7.2: another load", api.Sector{N: p.n, B: framed(p.n, turned(right, i, byte(bits)))})
			}
			checkPlainly(t, "P7.2: a load that is cut", api.Sector{N: p.n, B: framed(p.n, right[:i])})
		}
	}
}

func TestReadOfEachNumberNearAState(t *testing.T) {
	for _, place := range []int{0, 1, 2, 32, 255, 256, 257, 65536, greatest - 2, greatest} {
		for n := max(1, place-300); n <= min(place+300, greatest); n++ {
			checkPlainly(t, "P7.2: a number near the state's place", holds(n, of(place)))
		}
		for bit := range 20 {
			checkPlainly(t, "P7.2: a number of one bit", holds(1<<bit, of(place)))
		}
	}
}
