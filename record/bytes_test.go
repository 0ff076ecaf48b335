package record_test

import (
	"bytes"
	"testing"

	"flume/api"
	"flume/record"
)

func checkBytes(t *testing.T, what string, r api.Record, want []byte) {
	t.Helper()
	if got, e := record.Bytes(r); e != api.OK || !bytes.Equal(got, want) {
		t.Errorf("P5.2: Bytes of a record %s are %v, %v; asked are %v", what, got, e, want)
	}
}

func checkStateBytes(t *testing.T, what string, s api.State, want []byte) {
	t.Helper()
	if got, e := record.StateBytes(s); e != api.OK || !bytes.Equal(got, want) {
		t.Errorf("P5.2: StateBytes of a state %s are %v, %v; asked are %v", what, got, e, want)
	}
}

func TestBytesOfRecords(t *testing.T) {
	checkBytes(t, "of the chapter", api.Record{Place: 2, Yes: true, Writes: writes(3, 7)}, []byte{2, 0, 0, 1, 1, 3, 7})
	checkBytes(t, "that is a no", api.Record{Place: 0x0a0b0c}, []byte{12, 11, 10, 0, 0})
	checkBytes(t, "of no writes", api.Record{Place: 256, Yes: true}, []byte{0, 1, 0, 1, 0})
	checkBytes(t, "of the greatest writes", api.Record{Place: greatest, Yes: true, Writes: writes(0, 0, 1, 255, 22, 128, 23, 1)},
		[]byte{255, 255, 15, 1, 4, 0, 0, 1, 255, 22, 128, 23, 1})
	for _, c := range rightRecords() {
		checkBytes(t, c.name, c.v, plainBytes(c.v))
	}
}

func TestBytesOfEachPlace(t *testing.T) {
	for place := 1; place <= greatest; place += 89 {
		checkBytes(t, "of some place", api.Record{Place: place}, []byte{byte(place), byte(place >> 8), byte(place >> 16), 0, 0})
	}
}

func TestBytesOfEachWrite(t *testing.T) {
	for key := range lastKey + 1 {
		for value := range 256 {
			checkBytes(t, "of one write", api.Record{Place: 9, Yes: true, Writes: writes(key, value)}, []byte{9, 0, 0, 1, 1, byte(key), byte(value)})
		}
	}
}

func TestBytesOfRecordsThatMayNot(t *testing.T) {
	for _, c := range wrongRecords() {
		if b, e := record.Bytes(c.v); len(b) != 0 || e != api.ErrArg {
			t.Errorf("P5.2: Bytes of a record: %s, are %v, %v; asked is ErrArg alone", c.name, b, e)
		}
	}
}

func TestStateBytesOfStates(t *testing.T) {
	checkStateBytes(t, "of nothing", api.State{}, []byte{
		0, 0, 0, 0,
		0, 0, 0, 0, 0, 0, 0,
		0, 0, 0, 0, 0, 0, 0,
		0, 0, 0, 0, 0, 0, 0,
	})
	byHand, b := stateByHand()
	checkStateBytes(t, "told by hand", byHand, b)
	for _, c := range rightStates() {
		checkStateBytes(t, c.name, c.v, plainStateBytes(c.v))
	}
}

func TestStateBytesOfEachJAndKey(t *testing.T) {
	for j := range 4 {
		for key := range 8 {
			s := api.State{Place: 5, Lines: [3][]api.Line{1: {{Offset: 1, Place: 5, J: j, Key: key, Value: 6}}}}
			checkStateBytes(t, "of a line's J and key", s, []byte{
				5, 0, 0, 0,
				0, 0, 0, 0, 0, 0, 0,
				0, 0, 0, 1, 1, 0, 0, 5, 0, 0, byte(16*key + j), 6,
				0, 0, 0, 0, 0, 0, 0,
			})
		}
	}
}

func TestStateBytesOfStatesThatMayNot(t *testing.T) {
	for _, c := range wrongStates() {
		if b, e := record.StateBytes(c.v); len(b) != 0 || e != api.ErrArg {
			t.Errorf("P5.2: StateBytes of a state: %s, are %d bytes, %v; asked is ErrArg alone", c.name, len(b), e)
		}
	}
}
