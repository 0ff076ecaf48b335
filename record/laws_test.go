package record_test

import (
	"bytes"
	"math/rand"
	"slices"
	"testing"

	"flume/api"
	"flume/record"
)

// checkRound holds Read against Bytes, both ways about.
func checkRound(t *testing.T, r api.Record) {
	t.Helper()
	b, e := record.Bytes(r)
	if e != api.OK || len(b) > load {
		t.Fatalf("P5.3: the bytes of %v are %d, %v", r, len(b), e)
	}
	got, e := record.Read(b)
	if e != api.OK || !record.Same(got, r) || !alike(got, r) {
		t.Errorf("P5.3: Read of Bytes of %v is %v, %v", r, got, e)
	}
	if again, e := record.Bytes(got); e != api.OK || !bytes.Equal(again, b) {
		t.Errorf("P5.3: Bytes of Read of %v are %v, %v", b, again, e)
	}
}

// checkRoundState holds ReadState against StateBytes, both ways about.
func checkRoundState(t *testing.T, s api.State) {
	t.Helper()
	b, e := record.StateBytes(s)
	if e != api.OK || len(b) > load {
		t.Fatalf("P5.3: the bytes of %v are %d, %v", s, len(b), e)
	}
	got, e := record.ReadState(b)
	if e != api.OK || !record.SameState(got, s) || !alikeStates(got, s) {
		t.Errorf("P5.3: ReadState of StateBytes of %v is %v, %v", s, got, e)
	}
	if again, e := record.StateBytes(got); e != api.OK || !bytes.Equal(again, b) {
		t.Errorf("P5.3: StateBytes of ReadState of %v are %v, %v", b, again, e)
	}
}

func TestRoundOfSamples(t *testing.T) {
	for _, c := range rightRecords() {
		checkRound(t, c.v)
	}
	for _, c := range rightStates() {
		checkRoundState(t, c.v)
	}
}

// someWrites answers up to four writes, by the numbers that are drawn.
func someWrites(draw *rand.Rand) []api.Write {
	keys := draw.Perm(lastKey + 1)[:draw.Intn(5)]
	slices.Sort(keys)
	var l []api.Write
	for _, key := range keys {
		l = append(l, api.Write{Key: key, Value: draw.Intn(256)})
	}
	return l
}

func TestRoundOfManyRecords(t *testing.T) {
	draw := rand.New(rand.NewSource(5))
	for range 20000 {
		r := api.Record{Place: 1 + draw.Intn(greatest>>draw.Intn(20)), Yes: draw.Intn(4) > 0}
		if r.Yes {
			r.Writes = someWrites(draw)
		}
		checkRound(t, r)
		checkBytes(t, "that was drawn", r, plainBytes(r))
	}
}

// someLines answers up to sixteen lines of places behind the cut, up to the place.
func someLines(draw *rand.Rand, cut, place int) []api.Line {
	var at []int // 4 times the place, and J
	for range draw.Intn(17) {
		if cut < place {
			at = append(at, 4*(cut+1+draw.Intn(place-cut))+draw.Intn(4))
		}
	}
	slices.Sort(at)
	at = slices.Compact(at)
	first := draw.Intn((lastOffset+1)>>draw.Intn(20)) - len(at)
	var l []api.Line
	for i, n := range at {
		l = append(l, api.Line{Offset: max(first, 0) + i, Place: n / 4, J: n % 4, Key: draw.Intn(8), Value: draw.Intn(256)})
	}
	return l
}

func someState(draw *rand.Rand) api.State {
	s := api.State{Place: draw.Intn(1 + greatest>>draw.Intn(20))}
	for key := range lastKey + 1 {
		if s.Place > 0 && draw.Intn(3) > 0 {
			s.Items = append(s.Items, api.Item{Key: key, Place: 1 + draw.Intn(s.Place), Value: draw.Intn(256)})
		}
	}
	for q := range s.Lines {
		s.Cut[q] = draw.Intn(s.Place + 1)
		s.Lines[q] = someLines(draw, s.Cut[q], s.Place)
	}
	return s
}

func TestRoundOfManyStates(t *testing.T) {
	draw := rand.New(rand.NewSource(6))
	for range 5000 {
		s := someState(draw)
		if !record.Stands(s) {
			t.Fatalf("P5.1: Stands of %v is false", s)
		}
		checkRoundState(t, s)
		checkStateBytes(t, "that was drawn", s, plainStateBytes(s))
	}
}

// What is read, of whatever bytes, has just these bytes.
func TestBytesOfWhateverIsRead(t *testing.T) {
	draw := rand.New(rand.NewSource(7))
	for range 3000 {
		b := plainStateBytes(someState(draw))
		for range 1 + draw.Intn(3) {
			b[draw.Intn(len(b))] ^= 1 << draw.Intn(8)
		}
		checkReadState(t, "bits turned in a state", b)
		c := plainBytes(api.Record{Place: 1 + draw.Intn(greatest), Yes: true, Writes: someWrites(draw)})
		c[draw.Intn(len(c))] ^= 1 << draw.Intn(8)
		checkRead(t, "a bit turned in a record", c)
		noise := make([]byte, draw.Intn(40))
		draw.Read(noise)
		checkRead(t, "noise", noise)
		checkReadState(t, "noise", noise)
	}
}

func TestAllFitALoad(t *testing.T) {
	if b, e := record.StateBytes(fullState()); e != api.OK || len(b) != 385 {
		t.Errorf("P5.3: the state of the most bytes has %d, %v", len(b), e)
	}
	full := api.Record{Place: greatest, Yes: true, Writes: writes(20, 255, 21, 255, 22, 255, 23, 255)}
	if b, e := record.Bytes(full); e != api.OK || len(b) != 13 {
		t.Errorf("P5.3: the record of the most bytes has %d, %v", len(b), e)
	}
}
