package record_test

import (
	"bytes"
	"slices"
	"testing"

	"flume/api"
	"flume/record"
)

// checkRead holds Read against the plain telling of the bytes.
func checkRead(t *testing.T, what string, b []byte) {
	t.Helper()
	want, ok := plainRead(b)
	if !ok {
		checkNoRecord(t, what, b)
		return
	}
	if got, e := record.Read(b); e != api.OK || !alike(got, want) {
		t.Errorf("P5.2: Read of %s, %v, is %v, %v; asked is %v", what, b, got, e, want)
	}
}

func checkNoRecord(t *testing.T, what string, b []byte) {
	t.Helper()
	if got, e := record.Read(b); e != api.ErrCode || !alike(got, api.Record{}) {
		t.Errorf("P5.2: Read of %s, %d bytes, is %v, %v; asked is ErrCode alone", what, len(b), got, e)
	}
}

// checkReadState holds ReadState against the plain telling of the bytes.
func checkReadState(t *testing.T, what string, b []byte) {
	t.Helper()
	want, ok := plainReadState(b)
	if !ok {
		checkNoState(t, what, b)
		return
	}
	if got, e := record.ReadState(b); e != api.OK || !alikeStates(got, want) {
		t.Errorf("P5.2: ReadState of %s, %v, is %v, %v; asked is %v", what, b, got, e, want)
	}
}

func checkNoState(t *testing.T, what string, b []byte) {
	t.Helper()
	if got, e := record.ReadState(b); e != api.ErrCode || !alikeStates(got, api.State{}) {
		t.Errorf("P5.2: ReadState of %s, %d bytes, is %v, %v; asked is ErrCode alone", what, len(b), got, e)
	}
}

func TestReadOfBytesByHand(t *testing.T) {
	for _, c := range []struct {
		b    []byte
		want api.Record
	}{
		{[]byte{2, 0, 0, 1, 1, 3, 7}, api.Record{Place: 2, Yes: true, Writes: writes(3, 7)}},
		{[]byte{12, 11, 10, 0, 0}, api.Record{Place: 0x0a0b0c}},
		{[]byte{0, 1, 0, 1, 0}, api.Record{Place: 256, Yes: true}},
		{[]byte{255, 255, 15, 1, 4, 0, 0, 1, 255, 22, 128, 23, 1}, api.Record{Place: greatest, Yes: true, Writes: writes(0, 0, 1, 255, 22, 128, 23, 1)}},
	} {
		if got, e := record.Read(c.b); e != api.OK || !alike(got, c.want) {
			t.Errorf("P5.2: Read of %v is %v, %v; asked is %v", c.b, got, e, c.want)
		}
	}
}

func TestReadOfBytesThatAreNone(t *testing.T) {
	for _, c := range []named[[]byte]{
		{"nothing", nil},
		{"no bytes", []byte{}},
		{"noughts", make([]byte, 5)},
		{"place 0", []byte{0, 0, 0, 1, 1, 3, 7}},
		{"a place past the greatest", []byte{0, 0, 16, 0, 0}},
		{"the greatest three bytes as place", []byte{255, 255, 255, 1, 0}},
		{"a Yes of 2", []byte{2, 0, 0, 2, 1, 3, 7}},
		{"a Yes of 255", []byte{2, 0, 0, 255, 1, 3, 7}},
		{"a Yes of 2 without writes", []byte{2, 0, 0, 2, 0}},
		{"a no with a write", []byte{2, 0, 0, 0, 1, 3, 7}},
		{"a count of no writes", []byte{2, 0, 0, 1, 0, 3, 7}},
		{"a count of one more", []byte{2, 0, 0, 1, 2, 3, 7}},
		{"a count of one fewer", []byte{2, 0, 0, 1, 1, 3, 7, 4, 8}},
		{"a write more than the most", []byte{2, 0, 0, 1, 5, 0, 1, 1, 1, 2, 1, 3, 1, 4, 1}},
		{"a key that is none", []byte{2, 0, 0, 1, 1, 24, 7}},
		{"the greatest byte as key", []byte{2, 0, 0, 1, 1, 255, 7}},
		{"keys the same", []byte{2, 0, 0, 1, 2, 3, 7, 3, 8}},
		{"keys that fall", []byte{2, 0, 0, 1, 2, 3, 7, 2, 8}},
		{"many writes", append([]byte{2, 0, 0, 1, 255}, make([]byte, 510)...)},
		{"many bytes", append([]byte{2, 0, 0, 1, 1, 3, 7}, make([]byte, 1<<20)...)},
		{"a record twice", []byte{2, 0, 0, 1, 1, 3, 7, 2, 0, 0, 1, 1, 3, 7}},
	} {
		checkNoRecord(t, c.name, c.v)
	}
	for _, c := range wrongRecords() {
		if c.v.Place >= 0 && c.v.Place < 1<<24 && len(c.v.Writes) < 256 && !slices.ContainsFunc(c.v.Writes, isNoPairOfBytes) {
			checkNoRecord(t, "the bytes of a record: "+c.name, plainBytes(c.v))
		}
	}
}

func isNoPairOfBytes(w api.Write) bool {
	return w.Key != int(byte(w.Key)) || w.Value != int(byte(w.Value))
}

// Of each record's bytes: those in front, one byte more anywhere, one byte fewer anywhere, each byte as each other one.
func TestReadOfBytesNearARecord(t *testing.T) {
	for _, c := range rightRecords() {
		b := plainBytes(c.v)
		for i := range b {
			checkNoRecord(t, "the bytes in front of a record "+c.name, b[:i:i])
			checkRead(t, "the end of a record "+c.name, b[i:])
			checkRead(t, "a byte fewer in a record "+c.name, slices.Delete(slices.Clone(b), i, i+1))
		}
		for n := range 256 {
			checkNoRecord(t, "a byte behind a record "+c.name, append(b[:len(b):len(b)], byte(n)))
			for i := range b {
				other := slices.Clone(b)
				other[i] = byte(n)
				checkRead(t, "a byte changed in a record "+c.name, other)
				checkRead(t, "a byte more in a record "+c.name, slices.Insert(slices.Clone(b), i, byte(n)))
			}
		}
	}
}

func TestReadOfEachYesAndCount(t *testing.T) {
	check := func(yes, count int) {
		b := []byte{9, 0, 0, byte(yes), byte(count)}
		for i := range 7 {
			checkRead(t, "a Yes and a count", b)
			checkNoRecord(t, "a Yes and a count, and a byte more", append(b, 0))
			b = append(b, byte(3*i), byte(i))
		}
	}
	for n := range 256 {
		for few := range 7 {
			check(n, few)
			check(few, n)
		}
		check(n, 255)
		check(255, n)
	}
}

func TestReadLeavesSpareRoomUnread(t *testing.T) {
	b := []byte{2, 0, 0, 1, 1, 3, 7}
	for i := range b {
		checkNoRecord(t, "a record's front, the others in spare room", b[:i])
	}
	whole := plainStateBytes(sampleState())
	for i := range whole {
		checkNoState(t, "a state's front, the others in spare room", whole[:i])
	}
}

func TestReadStateOfBytesByHand(t *testing.T) {
	want, b := stateByHand()
	got, e := record.ReadState(b)
	if e != api.OK || !alikeStates(got, want) {
		t.Errorf("P5.2: ReadState is %v, %v; asked is %v", got, e, want)
	}
	if got, e := record.ReadState(make([]byte, 25)); e != api.OK || !alikeStates(got, api.State{}) {
		t.Errorf("P5.2: ReadState of the state of nothing is %v, %v", got, e)
	}
}

func TestReadStateOfBytesThatAreNone(t *testing.T) {
	checkNoState(t, "nothing", nil)
	checkNoState(t, "no bytes", []byte{})
	checkNoState(t, "many bytes", make([]byte, 1<<20))
	checkNoState(t, "great bytes", bytes.Repeat([]byte{255}, 1<<20))
	for many := range 60 {
		if many != 25 {
			checkNoState(t, "noughts", make([]byte, many))
		}
	}
	for q := range 3 {
		for _, n := range []byte{1, 16, 255} {
			for i := range 3 {
				b := make([]byte, 25)
				b[4+7*q+4+i] = n
				checkNoState(t, "a first offset where there is no line", b)
			}
		}
	}
	for _, c := range wrongStates() {
		if isInBytes(c.v) {
			checkNoState(t, "the bytes of a state: "+c.name, plainStateBytes(c.v))
		}
	}
}

// isInBytes tells whether the numbers of the state, which may not be, fit the bytes that they would have.
func isInBytes(s api.State) bool {
	fit := func(top int, numbers ...int) bool {
		return !slices.ContainsFunc(numbers, func(n int) bool { return n < 0 || n > top })
	}
	ok := fit(1<<24-1, s.Place, s.Cut[0], s.Cut[1], s.Cut[2]) && fit(255, len(s.Items))
	for _, i := range s.Items {
		ok = ok && fit(1<<24-1, i.Place) && fit(255, i.Key, i.Value)
	}
	for _, lines := range s.Lines {
		ok = ok && fit(255, len(lines))
		for i, l := range lines {
			ok = ok && l.Offset == lines[0].Offset+i && fit(1<<24-1, l.Offset, l.Place) && fit(15, l.J, l.Key) && fit(255, l.Value)
		}
	}
	return ok
}

// Of each state's bytes: those in front, one byte more anywhere, one byte fewer anywhere, each byte as each other one.
func TestReadStateOfBytesNearAState(t *testing.T) {
	for _, c := range rightStates() {
		b := plainStateBytes(c.v)
		for i := range b {
			checkNoState(t, "the bytes in front of a state "+c.name, b[:i:i])
			checkReadState(t, "the end of a state "+c.name, b[i:])
			checkReadState(t, "a byte fewer in a state "+c.name, slices.Delete(slices.Clone(b), i, i+1))
			checkReadState(t, "a byte twice in a state "+c.name, slices.Insert(slices.Clone(b), i, b[i]))
		}
		for n := range 256 {
			checkNoState(t, "a byte behind a state "+c.name, append(b[:len(b):len(b)], byte(n)))
		}
		step := 1 + len(b)/20
		for n := 0; n < 256; n += step {
			for i := range b {
				other := slices.Clone(b)
				other[i] = byte(n + i%step)
				checkReadState(t, "a byte changed in a state "+c.name, other)
			}
		}
	}
}

func TestReadStateOfEachByteOfOne(t *testing.T) {
	b := plainStateBytes(sampleState())
	for i := range b {
		for n := range 256 {
			other := slices.Clone(b)
			other[i] = byte(n)
			checkReadState(t, "a byte changed", other)
		}
	}
}
