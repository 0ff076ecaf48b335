package record_test

import (
	"bytes"
	"slices"
	"testing"

	"flume/aid"
	"flume/api"
	"flume/record"
)

var (
	markWrite = api.Write{Key: 77, Value: 78}
	markItem  = api.Item{Key: 77, Place: 78, Value: 79}
	markLine  = api.Line{Offset: 74, Place: 75, J: 76, Key: 77, Value: 78}
)

func roomyState(s api.State) api.State {
	s.Items = aid.Roomy(s.Items, markItem)
	for q := range s.Lines {
		s.Lines[q] = aid.Roomy(s.Lines[q], markLine)
	}
	return s
}

func fillState(s api.State) {
	aid.Fill(s.Items, markItem)
	for _, lines := range s.Lines {
		aid.Fill(lines, markLine)
	}
}

func TestRecordsHandedInStay(t *testing.T) {
	for _, c := range append(rightRecords(), wrongRecords()...) {
		if len(c.v.Writes) > 100 {
			continue
		}
		r := c.v
		r.Writes = aid.Roomy(c.v.Writes, markWrite)
		record.May(r)
		record.Written(r.Writes)
		record.Same(r, r)
		b, _ := record.Bytes(r)
		aid.CheckRoom(t, "asking of a record "+c.name, r.Writes, c.v.Writes, markWrite)
		want := slices.Clone(b)
		aid.Fill(r.Writes, markWrite)
		if !bytes.Equal(b, want) {
			t.Errorf("R4: the bytes of a record %s follow what was handed in", c.name)
		}
	}
}

func TestStatesHandedInStay(t *testing.T) {
	for _, c := range append(rightStates(), wrongStates()...) {
		if len(c.v.Items) > 100 || len(c.v.Lines[0])+len(c.v.Lines[1])+len(c.v.Lines[2]) > 100 {
			continue
		}
		s := roomyState(c.v)
		record.Stands(s)
		record.SameState(s, s)
		b, _ := record.StateBytes(s)
		aid.CheckRoom(t, "asking of a state "+c.name, s.Items, c.v.Items, markItem)
		for q, lines := range s.Lines {
			aid.CheckRoom(t, "asking of a state "+c.name, lines, c.v.Lines[q], markLine)
		}
		want := slices.Clone(b)
		fillState(s)
		if !bytes.Equal(b, want) {
			t.Errorf("R4: the bytes of a state %s follow what was handed in", c.name)
		}
	}
}

func TestBytesHandedInStay(t *testing.T) {
	for _, c := range rightRecords() {
		want := plainBytes(c.v)
		b := aid.Roomy(want, 0xaa)
		r, _ := record.Read(b)
		aid.CheckRoom(t, "Read of a record "+c.name, b, want, 0xaa)
		aid.Fill(b, 0x55)
		if !alike(r, c.v) {
			t.Errorf("R4: what was read of a record %s follows what was handed in", c.name)
		}
	}
	for _, c := range rightStates() {
		want := plainStateBytes(c.v)
		b := aid.Roomy(want, 0xaa)
		s, _ := record.ReadState(b)
		aid.CheckRoom(t, "ReadState of a state "+c.name, b, want, 0xaa)
		aid.Fill(b, 0x55)
		if !alikeStates(s, c.v) {
			t.Errorf("R4: what was read of a state %s follows what was handed in", c.name)
		}
	}
}

func TestAnswersShareNothing(t *testing.T) {
	for _, c := range rightRecords() {
		b, _ := record.Bytes(c.v)
		other, _ := record.Bytes(c.v)
		r, _ := record.Read(b)
		again, _ := record.Read(b)
		aid.Fill(other, 0x55)
		aid.Fill(again.Writes, markWrite)
		if !bytes.Equal(b, plainBytes(c.v)) || !alike(r, c.v) {
			t.Errorf("R4: answers of a record %s share memory", c.name)
		}
	}
	for _, c := range rightStates() {
		b, _ := record.StateBytes(c.v)
		other, _ := record.StateBytes(c.v)
		s, _ := record.ReadState(b)
		again, _ := record.ReadState(b)
		aid.Fill(other, 0x55)
		fillState(again)
		if !bytes.Equal(b, plainStateBytes(c.v)) || !alikeStates(s, c.v) {
			t.Errorf("R4: answers of a state %s share memory", c.name)
		}
	}
}

func TestTheListsOfAnAnswerShareNothing(t *testing.T) {
	for _, c := range rightStates() {
		for q := range 3 {
			s, _ := record.ReadState(plainStateBytes(c.v))
			aid.Fill(s.Lines[q], markLine)
			for p := range 3 {
				if p != q && !slices.Equal(s.Lines[p], c.v.Lines[p]) {
					t.Errorf("R4: the lines of partitions %d and %d of a state %s share memory", p, q, c.name)
				}
			}
		}
	}
}

func TestTheSameIsAnsweredAnew(t *testing.T) {
	texts := [][]byte{nil, {2, 0, 0, 1, 1, 3, 7}, {2, 0, 0, 2, 1, 3, 7}, make([]byte, 25), plainStateBytes(fullState()), plainStateBytes(sampleState())}
	for range 3 {
		for _, b := range texts {
			checkRead(t, "what was read ahead", b)
			checkReadState(t, "what was read ahead", b)
		}
	}
}
