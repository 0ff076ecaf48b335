package pack_test

import (
	"encoding/binary"
	"math"
	"slices"
	"testing"

	"flume/api"
	"flume/pack"
)

// greatest has, by the width, the greatest number of so many bytes.
var greatest = [...]int{
	1: 255,
	2: 65535,
	3: 16777215,
	4: 4294967295,
	5: 1099511627775,
	6: 281474976710655,
}

// strangeWidths are widths that are none: just past each bound, and far beyond.
var strangeWidths = []int{0, 7, 8, 9, 64, -1, -8, math.MinInt, math.MaxInt}

func TestFitsAtTheBoundsOfEachWidth(t *testing.T) {
	for w := 1; w <= 6; w++ {
		for _, n := range []int{0, 1, 127, 128, greatest[w] / 2, greatest[w] - 1, greatest[w]} {
			if !pack.Fits(n, w) {
				t.Errorf("P1.1: Fits(%d, %d) is false", n, w)
			}
		}
		for _, n := range []int{greatest[w] + 1, 2*greatest[w] + 1, math.MaxInt, -1, -256, math.MinInt} {
			if pack.Fits(n, w) {
				t.Errorf("P1.1: Fits(%d, %d) is true", n, w)
			}
		}
	}
}

func TestFitsNoStrangeWidth(t *testing.T) {
	for _, w := range strangeWidths {
		for _, n := range []int{0, 1, 255, -1, math.MaxInt, math.MinInt} {
			if pack.Fits(n, w) {
				t.Errorf("P1.1: Fits(%d, %d) is true", n, w)
			}
		}
	}
}

func TestPutHasTheLowestByteFirst(t *testing.T) {
	for _, c := range []struct {
		b    []byte
		n, w int
		want []byte
	}{
		{nil, 0, 1, []byte{0}},
		{[]byte{}, 255, 1, []byte{255}},
		{nil, 1, 3, []byte{1, 0, 0}},
		{[]byte{9}, 0x010203, 3, []byte{9, 3, 2, 1}},
		{[]byte{7, 8}, 0x0102, 2, []byte{7, 8, 2, 1}},
		{nil, 0x060504030201, 6, []byte{1, 2, 3, 4, 5, 6}},
		{[]byte{0}, 281474976710655, 6, []byte{0, 255, 255, 255, 255, 255, 255}},
	} {
		got, e := pack.Put(c.b, c.n, c.w)
		if e != api.OK || !slices.Equal(got, c.want) {
			t.Errorf("P1.1: Put(%v, %d, %d) is %v, %v; asked is %v", c.b, c.n, c.w, got, e, c.want)
		}
	}
}

func TestPutRefusesWhatDoesNotFit(t *testing.T) {
	refused := func(n, w int) {
		t.Helper()
		if got, e := pack.Put([]byte{1, 2}, n, w); got != nil || e != api.ErrArg {
			t.Errorf("P1.1: Put of %d in %d bytes is %v, %v", n, w, got, e)
		}
	}
	for w := 1; w <= 6; w++ {
		refused(greatest[w]+1, w)
		refused(-1, w)
		refused(math.MaxInt, w)
		refused(math.MinInt, w)
	}
	for _, w := range strangeWidths {
		refused(0, w)
		refused(1, w)
		refused(-1, w)
	}
}

func TestPutLeavesWhatItWasGiven(t *testing.T) {
	whole := []byte{1, 2, 3, 90, 91, 92, 93, 94, 95}
	kept := slices.Clone(whole)
	for w := 1; w <= 6; w++ {
		got, e := pack.Put(whole[:3], 0, w)
		if e != api.OK || !slices.Equal(whole, kept) {
			t.Fatalf("R4: Put in %d bytes wrote into spare room: %v, %v", w, whole, e)
		}
		clear(got[:cap(got)])
		if !slices.Equal(whole, kept) {
			t.Fatalf("R4: Put's answer in %d bytes shares memory: %v", w, whole)
		}
	}
}

func TestPutsAnswersShareNothing(t *testing.T) {
	b := make([]byte, 2, 64)
	first, _ := pack.Put(b, 1, 1)
	second, _ := pack.Put(b, 2, 1)
	behind, _ := pack.Put(first, 3, 1)
	other, _ := pack.Put(first, 4, 1)
	for i, c := range []struct{ got, want []byte }{
		{first, []byte{0, 0, 1}},
		{second, []byte{0, 0, 2}},
		{behind, []byte{0, 0, 1, 3}},
		{other, []byte{0, 0, 1, 4}},
	} {
		if !slices.Equal(c.got, c.want) {
			t.Errorf("R4: answer %d is %v; asked is %v", i, c.got, c.want)
		}
	}
	b[0] = 9
	if first[0] != 0 || second[0] != 0 {
		t.Error("R4: an answer follows what was handed in")
	}
}

func TestGetReadsJustItsBytes(t *testing.T) {
	b := []byte{1, 2, 3, 4, 5, 6, 255}
	for _, c := range []struct{ at, w, n int }{
		{0, 1, 1},
		{6, 1, 255},
		{0, 2, 0x0201},
		{2, 3, 0x050403},
		{3, 4, 0xff060504},
		{2, 5, 0xff06050403},
		{0, 6, 0x060504030201},
		{1, 6, 0xff0605040302},
	} {
		if n, e := pack.Get(b, c.at, c.w); n != c.n || e != api.OK {
			t.Errorf("P1.1: Get(%v, %d, %d) is %d, %v; asked is %d", b, c.at, c.w, n, e, c.n)
		}
	}
	if !slices.Equal(b, []byte{1, 2, 3, 4, 5, 6, 255}) {
		t.Errorf("R4: Get changed its bytes: %v", b)
	}
}

func TestGetNeedsAllItsBytes(t *testing.T) {
	for size := range 9 {
		b := slices.Repeat([]byte{1}, size)
		for w := 1; w <= 6; w++ {
			for at := -2; at < 11; at++ {
				want := api.OK
				if at < 0 || size-at < w {
					want = api.ErrCode
				}
				n, e := pack.Get(b, at, w)
				if e != want || e != api.OK && n != 0 {
					t.Errorf("P1.1: Get of %d bytes, at %d, %d wide, is %d, %v; asked is %v", size, at, w, n, e, want)
				}
			}
		}
	}
}

func TestGetLeavesSpareRoomUnread(t *testing.T) {
	b := []byte{1, 2, 3, 4}[:2]
	for _, c := range []struct{ at, w int }{{0, 3}, {1, 2}, {2, 1}} {
		if n, e := pack.Get(b, c.at, c.w); n != 0 || e != api.ErrCode {
			t.Errorf("P1.1: Get(%v, %d, %d) is %d, %v", b, c.at, c.w, n, e)
		}
	}
}

func TestGetFarOutside(t *testing.T) {
	for _, b := range [][]byte{nil, {}, {1}, {1, 2, 3, 4, 5, 6, 7, 8}} {
		for _, at := range []int{math.MinInt, math.MinInt + 1, math.MaxInt - 6, math.MaxInt - 1, math.MaxInt} {
			for w := 1; w <= 6; w++ {
				if n, e := pack.Get(b, at, w); n != 0 || e != api.ErrCode {
					t.Errorf("R1: Get(%v, %d, %d) is %d, %v", b, at, w, n, e)
				}
			}
		}
	}
}

func TestGetTellsAWrongWidthFirst(t *testing.T) {
	for _, w := range strangeWidths {
		for _, at := range []int{0, -1, 3, math.MaxInt, math.MinInt} {
			for _, b := range [][]byte{nil, {1, 2, 3, 4, 5, 6, 7, 8, 9}} {
				if n, e := pack.Get(b, at, w); n != 0 || e != api.ErrArg {
					t.Errorf("R2: Get(%v, %d, %d) is %d, %v", b, at, w, n, e)
				}
			}
		}
	}
}

func TestGetOfPutIsTheNumber(t *testing.T) {
	ahead := []byte{11, 22, 33}
	for w := 1; w <= 6; w++ {
		step := greatest[w]/1000 + 1
		for n := 0; n <= greatest[w]; n += step {
			checkRound(t, ahead, n, w)
			checkRound(t, nil, greatest[w]-n, w)
		}
	}
}

// checkRound holds Put against the library's little-endian order, and Get against Put.
func checkRound(t *testing.T, ahead []byte, n, w int) {
	t.Helper()
	got, e := pack.Put(ahead, n, w)
	want := append(slices.Clone(ahead), binary.LittleEndian.AppendUint64(nil, uint64(n))[:w]...)
	if e != api.OK || !slices.Equal(got, want) {
		t.Errorf("P1.3: Put(%v, %d, %d) is %v, %v; asked is %v", ahead, n, w, got, e, want)
	}
	if back, e := pack.Get(got, len(ahead), w); back != n || e != api.OK {
		t.Errorf("P1.3: Get of Put of %d in %d bytes is %d, %v", n, w, back, e)
	}
}

func TestNumbersStandOneBehindTheOther(t *testing.T) {
	var b []byte
	for w := 1; w <= 6; w++ {
		b, _ = pack.Put(b, greatest[w]-w, w)
	}
	at := 0
	for w := 1; w <= 6; w++ {
		if n, e := pack.Get(b, at, w); n != greatest[w]-w || e != api.OK {
			t.Errorf("P1.3: the number of %d bytes is %d, %v", w, n, e)
		}
		at += w
	}
	if at != len(b) {
		t.Errorf("P1.3: %d bytes stand where %d were put", len(b), at)
	}
}
