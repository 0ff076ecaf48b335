package record

import (
	"slices"

	"flume/api"
)

const (
	offsets  = 1 << 22 // of a partition's lines: how many there are
	keyTimes = 16      // a line's J and Key stand in one byte
)

// Stands tells whether the state may be.
func Stands(s api.State) bool {
	if !within(s.Place, 0, api.MaxPlace) || !itemsStand(s.Items, s.Place) {
		return false
	}
	for q, lines := range s.Lines {
		if !linesStand(lines, s.Place) || !cutStands(s.Cut[q], lines, s.Place) {
			return false
		}
	}
	return true
}

// itemsStand tells whether a state of that place may have the items.
func itemsStand(items []api.Item, place int) bool {
	fits := func(i api.Item) bool {
		return within(i.Key, 0, api.Keys-1) && within(i.Place, 1, place) && within(i.Value, 0, api.MaxValue)
	}
	rise := func(ahead, i api.Item) bool { return ahead.Key < i.Key }
	return each(items, fits) && follow(items, rise)
}

// linesStand tells whether a state of that place may have the lines in a partition.
func linesStand(lines []api.Line, place int) bool {
	fits := func(l api.Line) bool {
		return within(l.Offset, 0, offsets-1) && within(l.Place, 1, place) && within(l.J, 0, api.MaxWrites-1) &&
			within(l.Key, 0, api.PerPart-1) && within(l.Value, 0, api.MaxValue)
	}
	rise := func(ahead, l api.Line) bool {
		return ahead.Offset+1 == l.Offset && (ahead.Place < l.Place || ahead.Place == l.Place && ahead.J < l.J)
	}
	return len(lines) <= api.Room && each(lines, fits) && follow(lines, rise)
}

// cutStands tells whether a state of that place may have the cut in a partition of those lines.
func cutStands(cut int, lines []api.Line, place int) bool {
	return within(cut, 0, place) && (len(lines) == 0 || cut < lines[0].Place)
}

// StateBytes answers the state's bytes.
func StateBytes(s api.State) ([]byte, api.Errno) {
	if !Stands(s) {
		return nil, api.ErrArg
	}
	var w writer
	w.wide(s.Place)
	w.narrow(len(s.Items))
	for _, i := range s.Items {
		w.narrow(i.Key)
		w.wide(i.Place)
		w.narrow(i.Value)
	}
	for q, lines := range s.Lines {
		w.wide(s.Cut[q])
		w.lines(lines)
	}
	return w.b, api.OK
}

func (w *writer) lines(lines []api.Line) {
	first := 0
	if len(lines) > 0 {
		first = lines[0].Offset // tells the others', which are one behind the other
	}
	w.narrow(len(lines))
	w.wide(first)
	for _, l := range lines {
		w.wide(l.Place)
		w.narrow(l.J+keyTimes*l.Key, l.Value)
	}
}

// ReadState answers the state whose bytes are b.
func ReadState(b []byte) (api.State, api.Errno) {
	from := reader{b}
	s := api.State{Place: from.wide()}
	s.Items = row(from.narrow(), func(int) api.Item {
		return api.Item{Key: from.narrow(), Place: from.wide(), Value: from.narrow()}
	})
	for q := range s.Lines {
		s.Cut[q] = from.wide()
		s.Lines[q] = from.lines()
	}
	if just, e := StateBytes(s); e != api.OK || !slices.Equal(just, b) { // no other bytes are the state's
		return api.State{}, api.ErrCode
	}
	return s, api.OK
}

func (r *reader) lines() []api.Line {
	many, first := r.narrow(), r.wide()
	return row(many, func(i int) api.Line {
		place, both, value := r.wide(), r.narrow(), r.narrow()
		return api.Line{Offset: first + i, Place: place, J: both % keyTimes, Key: both / keyTimes, Value: value}
	})
}

// SameState tells whether a and b are alike, field by field.
func SameState(a, b api.State) bool {
	for q, lines := range a.Lines {
		if !slices.Equal(lines, b.Lines[q]) {
			return false
		}
	}
	return a.Place == b.Place && a.Cut == b.Cut && slices.Equal(a.Items, b.Items)
}
