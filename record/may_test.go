package record_test

import (
	"testing"

	"flume/api"
	"flume/record"
)

func TestMayOfRecordsThatMayBe(t *testing.T) {
	for _, c := range rightRecords() {
		if !record.May(c.v) {
			t.Errorf("P5.1: May of a record %s is false", c.name)
		}
		if !record.Written(c.v.Writes) {
			t.Errorf("P5.1: Written of the writes of a record %s is false", c.name)
		}
	}
}

func TestMayOfRecordsThatMayNot(t *testing.T) {
	for _, c := range wrongRecords() {
		if plainMay(c.v) {
			t.Fatalf("the record: %s, is told amiss", c.name)
		}
		if record.May(c.v) {
			t.Errorf("P5.1: May of a record: %s, is true", c.name)
		}
	}
}

func TestWrittenOfNone(t *testing.T) {
	if !record.Written(nil) || !record.Written([]api.Write{}) {
		t.Error("P5.1: no writes may not be")
	}
}

func TestWrittenOfListsThatMayNot(t *testing.T) {
	for _, c := range wrongLists() {
		if record.Written(c.v) {
			t.Errorf("P5.1: Written of %s is true", c.name)
		}
	}
}

// The lists of up to five keys out of some at the bounds, held against a plain telling.
func TestWrittenOfAllShortLists(t *testing.T) {
	var grow func(l []api.Write)
	grow = func(l []api.Write) {
		want := plainMay(api.Record{Place: 1, Yes: true, Writes: l})
		if got := record.Written(l); got != want {
			t.Errorf("P5.1: Written(%v) is %t", l, got)
		}
		if got := record.May(api.Record{Place: 1, Yes: true, Writes: l}); got != want {
			t.Errorf("P5.1: May of a yes with %v is %t", l, got)
		}
		if got := record.May(api.Record{Place: 1, Writes: l}); got != (len(l) == 0) {
			t.Errorf("P5.1: May of a no with %v is %t", l, got)
		}
		if len(l) == 5 {
			return
		}
		for _, key := range []int{-1, 0, 1, 2, 11, 22, lastKey, lastKey + 1} {
			grow(append(l[:len(l):len(l)], api.Write{Key: key, Value: 3}))
		}
	}
	grow(nil)
}

func TestEachPlaceAndEachPair(t *testing.T) {
	for place := -3; place <= greatest+3; place++ {
		want := place >= 1 && place <= greatest
		if got := record.May(api.Record{Place: place}); got != want {
			t.Fatalf("P5.1: May of a no of place %d is %t", place, got)
		}
	}
	for key := -2; key <= lastKey+2; key++ {
		for value := -2; value <= 257; value++ {
			want := key >= 0 && key <= lastKey && value >= 0 && value <= 255
			if got := record.Written(writes(key, value)); got != want {
				t.Errorf("P5.1: Written of %d to %d is %t", key, value, got)
			}
		}
	}
}

func TestStandsOfStatesThatMayBe(t *testing.T) {
	for _, c := range rightStates() {
		if !plainStands(c.v) {
			t.Fatalf("the state %s is told amiss", c.name)
		}
		if !record.Stands(c.v) {
			t.Errorf("P5.1: Stands of a state %s is false", c.name)
		}
	}
}

func TestStandsOfStatesThatMayNot(t *testing.T) {
	for _, c := range wrongStates() {
		if plainStands(c.v) {
			t.Fatalf("the state: %s, is told amiss", c.name)
		}
		if record.Stands(c.v) {
			t.Errorf("P5.1: Stands of a state: %s, is true", c.name)
		}
	}
}

// Each of the fields goes through all numbers about its bounds, alone in its state.
func TestStandsOfEachNumber(t *testing.T) {
	check := func(what string, n int, s api.State, want bool) {
		t.Helper()
		if got := record.Stands(s); got != want {
			t.Errorf("P5.1: Stands of %s %d in a state of place 40 is %t", what, n, got)
		}
	}
	for n := -3; n < 300; n++ {
		check("an item's key", n, api.State{Place: 40, Items: []api.Item{{Key: n, Place: 1}}}, n >= 0 && n < 24)
		check("an item's place", n, api.State{Place: 40, Items: []api.Item{{Place: n}}}, n >= 1 && n <= 40)
		check("an item's value", n, api.State{Place: 40, Items: []api.Item{{Place: 1, Value: n}}}, n >= 0 && n < 256)
		for q := range 3 {
			cut := api.State{Place: 40}
			cut.Cut[q] = n
			check("a cut", n, cut, n >= 0 && n <= 40)
			line := func(what string, l api.Line, want bool) {
				s := api.State{Place: 40}
				s.Lines[q] = []api.Line{l}
				check("a line's "+what, n, s, want)
				s.Cut[q] = 30
				check("a line's "+what+" behind a cut at 30", n, s, want && l.Place > 30)
			}
			line("offset", api.Line{Offset: n, Place: 40}, n >= 0)
			line("place", api.Line{Place: n}, n >= 1 && n <= 40)
			line("J", api.Line{Place: 40, J: n}, n >= 0 && n < 4)
			line("key", api.Line{Place: 40, Key: n}, n >= 0 && n < 8)
			line("value", api.Line{Place: 40, Value: n}, n >= 0 && n < 256)
		}
	}
}

// All pairs of lines that follow one another, by place and J, and by offsets.
func TestStandsOfEachPairOfLines(t *testing.T) {
	for a := range 4 * 4 {
		for b := range 4 * 4 {
			for step := -2; step <= 3; step++ {
				first := api.Line{Offset: 7, Place: 1 + a/4, J: a % 4, Key: 7}
				next := api.Line{Offset: 7 + step, Place: 1 + b/4, J: b % 4, Key: 1}
				s := api.State{Place: 4, Lines: [3][]api.Line{1: {first, next}}}
				if got := record.Stands(s); got != (step == 1 && a < b) {
					t.Errorf("P5.1: Stands of a line %v behind %v is %t", next, first, got)
				}
			}
		}
	}
}

func TestStandsOfEachNumberOfLines(t *testing.T) {
	for many := range 40 {
		for q := range 3 {
			s := api.State{Place: 100}
			s.Lines[q] = linesOf(many, 5)
			if got := record.Stands(s); got != (many <= 16) {
				t.Errorf("P5.1: Stands of %d lines in partition %d is %t", many, q, got)
			}
		}
	}
	for offset := lastOffset - 20; offset < lastOffset+5; offset++ {
		s := api.State{Place: 100, Lines: [3][]api.Line{2: linesOf(5, offset)}}
		if got := record.Stands(s); got != (offset+4 <= lastOffset) {
			t.Errorf("P5.1: Stands of 5 lines from offset %d on is %t", offset, got)
		}
	}
}
