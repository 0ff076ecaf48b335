package pack_test

import (
	"math"
	"testing"

	"flume/api"
	"flume/pack"
)

const (
	greatestHandle = 262143        // generation 1023, slot 255
	greatestWord   = 1099510841343 // place 1048575, the greatest handle
)

func TestHandleWithinItsBounds(t *testing.T) {
	for _, c := range []struct{ gen, slot, handle int }{
		{1, 0, 256},
		{1, 3, 259},
		{1, 255, 511},
		{2, 0, 512},
		{3, 7, 775},
		{512, 128, 131200},
		{1023, 0, 261888},
		{1023, 255, greatestHandle},
	} {
		if h, e := pack.Handle(c.gen, c.slot); h != c.handle || e != api.OK {
			t.Errorf("P1.2: Handle(%d, %d) is %d, %v; asked is %d", c.gen, c.slot, h, e, c.handle)
		}
	}
}

func TestHandleOutsideItsBounds(t *testing.T) {
	for _, c := range []struct{ gen, slot int }{
		{0, 0}, {0, 1}, {-1, 1}, {1024, 1}, {1024, 0},
		{1, -1}, {1, 256}, {1023, 256}, {2, -256},
		{0, 256}, {1024, -1},
		{math.MinInt, 0}, {math.MaxInt, 0}, {1, math.MinInt}, {1, math.MaxInt},
		{1 << 56, 0}, {1, 1 << 56},
	} {
		if h, e := pack.Handle(c.gen, c.slot); h != 0 || e != api.ErrArg {
			t.Errorf("P1.2: Handle(%d, %d) is %d, %v", c.gen, c.slot, h, e)
		}
	}
}

func TestEachHandleOnce(t *testing.T) {
	next := 256
	for gen := 1; gen <= 1023; gen++ {
		for slot := range 256 {
			if h, e := pack.Handle(gen, slot); h != next || e != api.OK {
				t.Fatalf("P1.2: Handle(%d, %d) is %d, %v; asked is %d", gen, slot, h, e, next)
			}
			next++
		}
	}
}

func TestWordWithinItsBounds(t *testing.T) {
	for _, c := range []struct{ place, handle, word int }{
		{0, 0, 0},
		{0, 256, 256}, // 0 is a place, and may stand beside a handle
		{0, greatestHandle, greatestHandle},
		{1, 256, 1048832},
		{2, 259, 2097411},
		{5, 775, 5243655},
		{1048575, 256, 1099510579456},
		{1048575, greatestHandle, greatestWord},
	} {
		if w, e := pack.Word(c.place, c.handle); w != c.word || e != api.OK {
			t.Errorf("P1.2: Word(%d, %d) is %d, %v; asked is %d", c.place, c.handle, w, e, c.word)
		}
	}
}

func TestWordOutsideItsBounds(t *testing.T) {
	for _, c := range []struct{ place, handle int }{
		{1, 0}, {5, 0}, {1048575, 0}, // no handle but at place 0
		{0, 1}, {0, 255}, {5, 1}, {5, 255}, // generation 0
		{0, 262144}, {5, 262144}, {5, 1 << 20}, // generation 1024, and beyond
		{0, -1}, {5, -1}, {5, -256},
		{-1, 0}, {-1, 256}, {1048576, 0}, {1048576, 256},
		{-1, -1}, {1048576, 262144},
		{math.MinInt, 256}, {math.MaxInt, 256}, {0, math.MinInt}, {0, math.MaxInt},
		{math.MinInt, 0}, {math.MaxInt, 0}, {1 << 44, 256}, {1 << 44, 0},
	} {
		if w, e := pack.Word(c.place, c.handle); w != 0 || e != api.ErrArg {
			t.Errorf("P1.2: Word(%d, %d) is %d, %v", c.place, c.handle, w, e)
		}
	}
}

// parts has what a number's parts are to be.
type parts struct{ place, slot, gen, bare int }

func checkParts(t *testing.T, n int, want parts) {
	t.Helper()
	got := parts{pack.Place(n), pack.Slot(n), pack.Gen(n), pack.Bare(n)}
	if got != want {
		t.Errorf("P1.2: place, slot, generation, handle of %d are %v; asked are %v", n, got, want)
	}
}

func TestPartsOfWordsAndHandles(t *testing.T) {
	checkParts(t, 0, parts{0, 0, 0, 0})
	checkParts(t, 256, parts{0, 0, 1, 256})
	checkParts(t, 259, parts{0, 3, 1, 259})
	checkParts(t, 2097411, parts{2, 3, 1, 259})
	checkParts(t, greatestHandle, parts{0, 255, 1023, greatestHandle})
	checkParts(t, greatestWord, parts{1048575, 255, 1023, greatestHandle})
}

func TestPartsOfNumbersThatAreNoWords(t *testing.T) {
	checkParts(t, 1, parts{0, 1, 0, 1})
	checkParts(t, 255, parts{0, 255, 0, 255})
	checkParts(t, 1<<20, parts{1, 0, 0, 0})
	checkParts(t, 1<<20-1, parts{0, 255, 4095, 1<<20 - 1}) // generations above MaxGen, too
	checkParts(t, 1<<18, parts{0, 0, 1024, 1 << 18})
	checkParts(t, 7<<20+262144+9, parts{7, 9, 1024, 262153})
	checkParts(t, 1048575<<20, parts{1048575, 0, 0, 0})
	checkParts(t, greatestWord-1, parts{1048575, 254, 1023, greatestHandle - 1})
}

func TestPartsByDivision(t *testing.T) {
	for n := 0; n <= greatestWord; n += 123456789 {
		bare := n % 1048576
		checkParts(t, n, parts{n / 1048576, n % 256, bare / 256, bare})
	}
}

func TestPartsBeyondAllWordsAreZero(t *testing.T) {
	for _, n := range []int{
		-1, -256, -259, -1 << 20, -greatestWord, math.MinInt, math.MinInt + 259,
		greatestWord + 1, 1<<40 - 1, 1 << 40, 1<<40 + 2097411, 1<<62 + 259, math.MaxInt,
	} {
		checkParts(t, n, parts{})
	}
}

func TestPartsMakeTheWordAgain(t *testing.T) {
	for _, place := range []int{0, 1, 2, 255, 256, 65535, 524288, 1048574, 1048575} {
		for _, gen := range []int{1, 2, 3, 511, 512, 1022, 1023} {
			for _, slot := range []int{0, 1, 127, 128, 254, 255} {
				checkAgain(t, place, gen, slot)
			}
		}
	}
}

func checkAgain(t *testing.T, place, gen, slot int) {
	t.Helper()
	handle, _ := pack.Handle(gen, slot)
	word, e := pack.Word(place, handle)
	if e != api.OK {
		t.Fatalf("P1.3: no word of %d, %d, %d: %v", place, gen, slot, e)
	}
	checkParts(t, word, parts{place, slot, gen, handle})
	same, _ := pack.Handle(pack.Gen(word), pack.Slot(word))
	if again, e := pack.Word(pack.Place(word), same); again != word || e != api.OK {
		t.Errorf("P1.3: the parts of %d make %d, %v", word, again, e)
	}
}

func TestWordsOfGreaterPlacesAreGreater(t *testing.T) {
	const least = 256
	for _, place := range []int{0, 1, 2, 1023, 1024, 524287, 1048573, 1048574} {
		low, e := pack.Word(place, greatestHandle)
		high, f := pack.Word(place+1, least)
		if e != api.OK || f != api.OK || low >= high {
			t.Errorf("P1.3: the words %d, %d of places %d and one more do not rise (%v, %v)", low, high, place, e, f)
		}
	}
}
