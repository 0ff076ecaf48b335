package record_test

import (
	"strconv"
	"testing"

	"flume/api"
	"flume/record"
)

// checkSame holds Same of all pairs against what is asked, the other way about, too.
func checkSame(t *testing.T, a, b named[api.Record]) {
	t.Helper()
	want := alike(a.v, b.v)
	if record.Same(a.v, b.v) != want || record.Same(b.v, a.v) != want {
		t.Errorf("P5.1: Same of records: %s, and: %s, is %t", a.name, b.name, !want)
	}
}

func checkSameState(t *testing.T, a, b named[api.State]) {
	t.Helper()
	want := alikeStates(a.v, b.v)
	if record.SameState(a.v, b.v) != want || record.SameState(b.v, a.v) != want {
		t.Errorf("P5.1: SameState of states: %s, and: %s, is %t", a.name, b.name, !want)
	}
}

func TestSameOfAllPairs(t *testing.T) {
	all := append(rightRecords(), wrongRecords()...)
	for i := range all {
		for j := range i + 1 {
			checkSame(t, all[i], all[j])
		}
	}
}

func TestSameByEachField(t *testing.T) {
	c := changed[api.Record]{sample: sampleRecord}
	c.add("another place", func(r *api.Record) { r.Place++ })
	c.add("a no", func(r *api.Record) { r.Yes = false })
	c.add("a write fewer", func(r *api.Record) { r.Writes = r.Writes[:2] })
	c.add("a write more", func(r *api.Record) { r.Writes = append(r.Writes, api.Write{}) })
	c.add("no writes", func(r *api.Record) { r.Writes = nil })
	for i := range 3 {
		c.add("another key", func(r *api.Record) { r.Writes[i].Key++ })
		c.add("another value", func(r *api.Record) { r.Writes[i].Value-- })
	}
	for _, other := range c.all {
		if record.Same(sampleRecord(), other.v) || record.Same(other.v, sampleRecord()) {
			t.Errorf("P5.1: Same of a record and one with %s is true", other.name)
		}
		if !record.Same(other.v, other.v) {
			t.Errorf("P5.1: Same of a record with %s and itself is false", other.name)
		}
	}
	if !record.Same(sampleRecord(), sampleRecord()) {
		t.Error("P5.1: Same of the same twice is false")
	}
}

func TestSameOfNothingAndNone(t *testing.T) {
	for _, yes := range []bool{false, true} {
		nothing, none := api.Record{Place: 3, Yes: yes}, api.Record{Place: 3, Yes: yes, Writes: []api.Write{}}
		if !record.Same(nothing, none) || !record.Same(none, nothing) {
			t.Error("P5.1: records of nil and of an empty list are not the same")
		}
	}
}

func TestSameStateOfAllPairs(t *testing.T) {
	all := append(rightStates(), wrongStates()...)
	for i := range all {
		for j := max(0, i-120); j <= i; j++ {
			checkSameState(t, all[i], all[j])
		}
		checkSameState(t, all[i], all[0])
	}
}

func TestSameStateByEachField(t *testing.T) {
	c := changed[api.State]{sample: sampleState}
	c.add("another place", func(s *api.State) { s.Place++ })
	c.add("an item fewer", func(s *api.State) { s.Items = s.Items[:2] })
	c.add("an item more", func(s *api.State) { s.Items = append(s.Items, api.Item{}) })
	for i := range 3 {
		in := " in item " + strconv.Itoa(i)
		c.add("another key"+in, func(s *api.State) { s.Items[i].Key++ })
		c.add("another place"+in, func(s *api.State) { s.Items[i].Place++ })
		c.add("another value"+in, func(s *api.State) { s.Items[i].Value++ })
		c.add("another cut"+in, func(s *api.State) { s.Cut[i]++ })
		c.add("a line more"+in, func(s *api.State) { s.Lines[i] = append(s.Lines[i], api.Line{}) })
	}
	for _, q := range []int{0, 2} {
		c.add("no lines", func(s *api.State) { s.Lines[q] = nil })
		for i := range 3 {
			in := " in line " + strconv.Itoa(i) + " of " + strconv.Itoa(q)
			c.add("another offset"+in, func(s *api.State) { s.Lines[q][i].Offset++ })
			c.add("another place"+in, func(s *api.State) { s.Lines[q][i].Place++ })
			c.add("another J"+in, func(s *api.State) { s.Lines[q][i].J++ })
			c.add("another key"+in, func(s *api.State) { s.Lines[q][i].Key++ })
			c.add("another value"+in, func(s *api.State) { s.Lines[q][i].Value++ })
		}
	}
	c.add("partitions turned about", func(s *api.State) { s.Lines[0], s.Lines[2] = s.Lines[2], s.Lines[0] })
	for _, other := range c.all {
		if record.SameState(sampleState(), other.v) || record.SameState(other.v, sampleState()) {
			t.Errorf("P5.1: SameState of a state and one with %s is true", other.name)
		}
		if !record.SameState(other.v, other.v) {
			t.Errorf("P5.1: SameState of a state with %s and itself is false", other.name)
		}
	}
}

func TestSameStateOfNothingAndNone(t *testing.T) {
	none := api.State{Place: 3, Items: []api.Item{}, Lines: [3][]api.Line{{}, {}, {}}}
	nothing := api.State{Place: 3}
	if !record.SameState(nothing, none) || !record.SameState(none, nothing) {
		t.Error("P5.1: states of nil and of empty lists are not the same")
	}
	if !record.SameState(sampleState(), sampleState()) {
		t.Error("P5.1: SameState of the same twice is false")
	}
}
