package record_test

import (
	"slices"
	"strconv"

	"flume/aid"
	"flume/api"
)

const (
	greatest   = 1048575 // of places
	lastOffset = 4194303
	lastKey    = 23
	load       = 600 // bytes of a sector's load
)

// named is a value, and what it is there for.
type named[T any] struct {
	name string
	v    T
}

// changed answers what is made by a change of new samples, each by its name.
type changed[T any] struct {
	sample func() T
	all    []named[T]
}

func (c *changed[T]) add(name string, change func(v *T)) {
	v := c.sample()
	change(&v)
	c.all = append(c.all, named[T]{name, v})
}

// writes answers writes of a key and a value each.
func writes(numbers ...int) []api.Write {
	var l []api.Write
	for i := 0; i < len(numbers); i += 2 {
		l = append(l, api.Write{Key: numbers[i], Value: numbers[i+1]})
	}
	return l
}

func sampleRecord() api.Record {
	return api.Record{Place: 70000, Yes: true, Writes: writes(2, 9, 7, 0, 20, 255)}
}

// rightRecords answers records that may be.
func rightRecords() []named[api.Record] {
	c := changed[api.Record]{sample: sampleRecord}
	c.add("of three writes", func(r *api.Record) {})
	c.add("of no writes", func(r *api.Record) { r.Writes = nil })
	c.add("of an empty list", func(r *api.Record) { r.Writes = []api.Write{} })
	c.add("a no", func(r *api.Record) { r.Yes, r.Writes = false, nil })
	c.add("a no of an empty list", func(r *api.Record) { r.Yes, r.Writes = false, []api.Write{} })
	c.add("of the greatest writes", func(r *api.Record) {
		r.Place, r.Writes = greatest, writes(20, 255, 21, 255, 22, 255, lastKey, 255)
	})
	c.add("of the least writes", func(r *api.Record) { r.Place, r.Writes = 1, writes(0, 0, 1, 0, 2, 0, 3, 0) })
	for _, place := range []int{1, 2, 255, 256, 65535, 65536, greatest - 1, greatest} {
		c.add("of place "+strconv.Itoa(place), func(r *api.Record) { r.Place = place })
		c.add("a no of place "+strconv.Itoa(place), func(r *api.Record) { *r = api.Record{Place: place} })
	}
	for _, key := range []int{0, 1, 22, lastKey} {
		c.add("of key "+strconv.Itoa(key), func(r *api.Record) { r.Writes = writes(key, 5) })
	}
	for _, value := range []int{0, 1, 254, 255} {
		c.add("of value "+strconv.Itoa(value), func(r *api.Record) { r.Writes[1].Value = value })
	}
	return c.all
}

// wrongLists answers writes that may not be.
func wrongLists() []named[[]api.Write] {
	c := changed[[]api.Write]{sample: func() []api.Write { return sampleRecord().Writes }}
	c.add("one more than the most", func(l *[]api.Write) { *l = writes(0, 1, 1, 1, 2, 1, 3, 1, 4, 1) })
	c.add("many", func(l *[]api.Write) { *l = make([]api.Write, 100000) })
	c.add("keys the same", func(l *[]api.Write) { (*l)[1].Key = 2 })
	c.add("keys the same at the end", func(l *[]api.Write) { (*l)[2].Key = 7 })
	c.add("keys that fall", func(l *[]api.Write) { (*l)[0].Key = 8 })
	c.add("keys that fall at the end", func(l *[]api.Write) { (*l)[2].Key = 6 })
	c.add("keys that fall all the way", func(l *[]api.Write) { slices.Reverse(*l) })
	for i := range 3 {
		at := " in write " + strconv.Itoa(i)
		for _, n := range aid.Outside(0, lastKey) {
			c.add("key "+strconv.Itoa(n)+at, func(l *[]api.Write) { (*l)[i].Key = n })
			c.add("key "+strconv.Itoa(n)+" alone", func(l *[]api.Write) { *l = writes(n, 1) })
		}
		for _, n := range aid.Outside(0, 255) {
			c.add("value "+strconv.Itoa(n)+at, func(l *[]api.Write) { (*l)[i].Value = n })
		}
	}
	return c.all
}

// wrongRecords answers records that may not be.
func wrongRecords() []named[api.Record] {
	c := changed[api.Record]{sample: sampleRecord}
	c.add("nothing", func(r *api.Record) { *r = api.Record{} })
	c.add("a no with writes", func(r *api.Record) { r.Yes = false })
	c.add("a no with a write", func(r *api.Record) { r.Yes, r.Writes = false, writes(0, 0) })
	for _, n := range aid.Outside(1, greatest) {
		c.add("place "+strconv.Itoa(n), func(r *api.Record) { r.Place = n })
		c.add("a no of place "+strconv.Itoa(n), func(r *api.Record) { *r = api.Record{Place: n} })
	}
	for _, l := range wrongLists() {
		c.add(l.name, func(r *api.Record) { r.Writes = l.v })
		c.add("a no with "+l.name, func(r *api.Record) { r.Yes, r.Writes = false, l.v })
	}
	return c.all
}

// plainMay tells whether the record may be, as the chapter tells it.
func plainMay(r api.Record) bool {
	if r.Place < 1 || r.Place > greatest || len(r.Writes) > 4 || !r.Yes && len(r.Writes) > 0 {
		return false
	}
	least := 0
	for _, w := range r.Writes {
		if w.Key < least || w.Key > lastKey || w.Value < 0 || w.Value > 255 {
			return false
		}
		least = w.Key + 1
	}
	return true
}

// three answers the three bytes of n.
func three(n int) []byte {
	return []byte{byte(n), byte(n / 256), byte(n / 65536)}
}

// plainBytes answers the record's bytes, as the chapter tells them.
func plainBytes(r api.Record) []byte {
	yes := byte(0)
	if r.Yes {
		yes = 1
	}
	b := append(three(r.Place), yes, byte(len(r.Writes)))
	for _, w := range r.Writes {
		b = append(b, byte(w.Key), byte(w.Value))
	}
	return b
}

// plainRead answers the record of which b are just the bytes, as the chapter tells it.
func plainRead(b []byte) (api.Record, bool) {
	if len(b) < 5 || len(b) != 5+2*int(b[4]) || b[3] > 1 {
		return api.Record{}, false
	}
	r := api.Record{Place: int(b[0]) + int(b[1])*256 + int(b[2])*65536, Yes: b[3] == 1}
	for i := 5; i < len(b); i += 2 {
		r.Writes = append(r.Writes, api.Write{Key: int(b[i]), Value: int(b[i+1])})
	}
	return r, plainMay(r)
}

// alike holds records against each other without the package.
func alike(a, b api.Record) bool {
	return a.Place == b.Place && a.Yes == b.Yes && slices.Equal(a.Writes, b.Writes)
}
