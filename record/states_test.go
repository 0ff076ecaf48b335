package record_test

import (
	"slices"
	"strconv"

	"flume/aid"
	"flume/api"
)

// sampleState answers a state: items of some keys; lines of a partition that were cut, of one that were not, and none.
func sampleState() api.State {
	return api.State{
		Place: 70000,
		Items: []api.Item{{Key: 0, Place: 1, Value: 0}, {Key: 5, Place: 69999, Value: 77}, {Key: lastKey, Place: 70000, Value: 255}},
		Lines: [3][]api.Line{
			{
				{Offset: 300, Place: 40, J: 3, Key: 7, Value: 255},
				{Offset: 301, Place: 41, J: 0, Key: 0, Value: 0},
				{Offset: 302, Place: 41, J: 2, Key: 5, Value: 16},
				{Offset: 303, Place: 70000, J: 1, Key: 1, Value: 1},
			},
			nil,
			{
				{Offset: 0, Place: 1, J: 0, Key: 0, Value: 0},
				{Offset: 1, Place: 69999, J: 1, Key: 3, Value: 200},
				{Offset: 2, Place: 69999, J: 2, Key: 7, Value: 9},
			},
		},
		Cut: [3]int{39, 12, 0},
	}
}

// stateByHand answers a state, and its bytes written by hand.
func stateByHand() (api.State, []byte) {
	s := api.State{
		Place: 0x0f0e0d,
		Items: []api.Item{{Key: 3, Place: 0x010203, Value: 9}, {Key: 23, Place: 4, Value: 255}},
		Lines: [3][]api.Line{
			{{Offset: 0x060504, Place: 0x0a0908, J: 3, Key: 7, Value: 200}, {Offset: 0x060505, Place: 0x0a0909, J: 0, Key: 1, Value: 0}},
			nil,
			{{Offset: 0, Place: 1, J: 2, Key: 0, Value: 5}},
		},
		Cut: [3]int{0x030201, 77, 0},
	}
	return s, []byte{
		13, 14, 15, 2, 3, 3, 2, 1, 9, 23, 4, 0, 0, 255,
		1, 2, 3, 2, 4, 5, 6, 8, 9, 10, 115, 200, 9, 9, 10, 16, 0,
		77, 0, 0, 0, 0, 0, 0,
		0, 0, 0, 1, 0, 0, 0, 1, 0, 0, 2, 5,
	}
}

// fullState answers the state of the most bytes.
func fullState() api.State {
	s := api.State{Place: greatest}
	for key := range lastKey + 1 {
		s.Items = append(s.Items, api.Item{Key: key, Place: greatest, Value: 255})
	}
	for q := range s.Lines {
		for i := range 16 {
			s.Lines[q] = append(s.Lines[q], api.Line{Offset: lastOffset - 15 + i, Place: greatest - 3 + i/4, J: i % 4, Key: 7, Value: 255})
		}
		s.Cut[q] = greatest - 4
	}
	return s
}

// linesOf answers so many lines from the offset on, of places from 1 on.
func linesOf(many, offset int) []api.Line {
	var l []api.Line
	for i := range many {
		l = append(l, api.Line{Offset: offset + i, Place: 1 + i, J: i % 4, Key: i % 8, Value: i % 256})
	}
	return l
}

// rightStates answers states that may be.
func rightStates() []named[api.State] {
	c := changed[api.State]{sample: sampleState}
	c.add("with items and lines", func(s *api.State) {})
	c.add("nothing", func(s *api.State) { *s = api.State{} })
	c.add("of empty lists", func(s *api.State) { *s = api.State{Items: []api.Item{}, Lines: [3][]api.Line{{}, {}, {}}} })
	c.add("full", func(s *api.State) { *s = fullState() })
	c.add("of the greatest place", func(s *api.State) { s.Place = greatest })
	c.add("of place 1", func(s *api.State) {
		*s = api.State{Place: 1, Items: []api.Item{{Key: 3, Place: 1, Value: 7}}, Cut: [3]int{1, 0, 1}}
	})
	c.add("of no items", func(s *api.State) { s.Items = nil })
	c.add("of no lines", func(s *api.State) { s.Lines = [3][]api.Line{} })
	c.add("of no lines, cut at its place", func(s *api.State) { s.Lines, s.Cut = [3][]api.Line{}, [3]int{70000, 70000, 70000} })
	c.add("of all keys", func(s *api.State) { s.Items = fullState().Items; s.Place = greatest })
	for q := range 3 {
		in := " in partition " + strconv.Itoa(q)
		c.add("of one line"+in, func(s *api.State) { s.Lines[q], s.Cut[q] = linesOf(1, 0), 0 })
		c.add("of the most lines"+in, func(s *api.State) { s.Lines[q], s.Cut[q] = linesOf(16, 0), 0 })
		c.add("of the last offset"+in, func(s *api.State) { s.Lines[q], s.Cut[q] = linesOf(1, lastOffset), 0 })
		c.add("of the last offsets"+in, func(s *api.State) { s.Lines[q], s.Cut[q] = linesOf(16, lastOffset-15), 0 })
		c.add("of offsets of three bytes"+in, func(s *api.State) { s.Lines[q], s.Cut[q] = linesOf(9, 65530), 0 })
		c.add("cut at 0"+in, func(s *api.State) { s.Cut[q] = 0 })
		c.add("cut just below the first line"+in, func(s *api.State) {
			s.Lines[q], s.Cut[q] = []api.Line{{Place: 9, Offset: 5}, {Place: 9, J: 3, Offset: 6}}, 8
		})
		c.add("of places of a line each, J falling"+in, func(s *api.State) {
			s.Lines[q], s.Cut[q] = []api.Line{{Place: 9, J: 3}, {Place: 10, J: 2, Offset: 1}, {Place: 70000, Offset: 2}}, 0
		})
	}
	return c.all
}

// wrongStates answers states that may not be.
func wrongStates() []named[api.State] {
	c := changed[api.State]{sample: sampleState}
	for _, n := range aid.Outside(0, greatest) {
		c.add("place "+strconv.Itoa(n), func(s *api.State) { s.Place = n })
		c.add("nothing at place "+strconv.Itoa(n), func(s *api.State) { *s = api.State{Place: n} })
	}
	c.add("below its items and lines", func(s *api.State) { s.Place = 69999 })
	c.add("of place 0 with an item", func(s *api.State) { *s = api.State{Items: []api.Item{{Key: 3, Place: 1, Value: 7}}} })
	c.add("of place 0 with an item of place 0", func(s *api.State) { *s = api.State{Items: []api.Item{{}}} })
	addWrongItems(&c)
	for q := range 3 {
		addWrongLines(&c, q)
		addWrongRows(&c, q)
		addWrongCuts(&c, q)
	}
	return c.all
}

func addWrongItems(c *changed[api.State]) {
	c.add("one more than all keys", func(s *api.State) {
		*s = fullState()
		s.Items = append(s.Items, api.Item{Key: lastKey + 1, Place: 1})
	})
	c.add("all keys, one twice", func(s *api.State) {
		*s = fullState()
		s.Items = append(s.Items, api.Item{Key: lastKey, Place: 1})
	})
	c.add("many items", func(s *api.State) { s.Items = slices.Repeat([]api.Item{{Place: 1}}, 100000) })
	c.add("items' keys the same", func(s *api.State) { s.Items[1].Key = 0 })
	c.add("items' keys the same at the end", func(s *api.State) { s.Items[2].Key = 5 })
	c.add("items' keys that fall", func(s *api.State) { s.Items[0].Key = 6 })
	c.add("items' keys that fall at the end", func(s *api.State) { s.Items[2].Key = 4 })
	for i := range 3 {
		in := " in item " + strconv.Itoa(i)
		for _, n := range aid.Outside(0, lastKey) {
			c.add("key "+strconv.Itoa(n)+in, func(s *api.State) { s.Items[i].Key = n })
		}
		for _, n := range aid.Outside(1, 70000) {
			c.add("place "+strconv.Itoa(n)+in, func(s *api.State) { s.Items[i].Place = n })
		}
		for _, n := range aid.Outside(0, 255) {
			c.add("value "+strconv.Itoa(n)+in, func(s *api.State) { s.Items[i].Value = n })
		}
	}
}

// fourLines answers lines in which each field may change a little.
func fourLines() []api.Line {
	return []api.Line{
		{Offset: 50, Place: 20, J: 0, Key: 1, Value: 1},
		{Offset: 51, Place: 20, J: 2, Key: 2, Value: 2},
		{Offset: 52, Place: 30, J: 1, Key: 3, Value: 3},
		{Offset: 53, Place: 70000, J: 3, Key: 4, Value: 4},
	}
}

func addWrongLines(c *changed[api.State], q int) {
	fields := []struct {
		name      string
		low, high int
		of        func(l *api.Line) *int
	}{
		{"place", 1, 70000, func(l *api.Line) *int { return &l.Place }},
		{"J", 0, 3, func(l *api.Line) *int { return &l.J }},
		{"key", 0, 7, func(l *api.Line) *int { return &l.Key }},
		{"value", 0, 255, func(l *api.Line) *int { return &l.Value }},
		{"offset", 0, lastOffset, func(l *api.Line) *int { return &l.Offset }},
	}
	for _, f := range fields {
		for _, n := range aid.Outside(f.low, f.high) {
			name := f.name + " " + strconv.Itoa(n) + " in partition " + strconv.Itoa(q)
			for i := range 4 {
				c.add(name+", line "+strconv.Itoa(i), func(s *api.State) {
					s.Lines[q], s.Cut[q] = fourLines(), 0
					*f.of(&s.Lines[q][i]) = n
				})
			}
			c.add(name+", a line alone", func(s *api.State) {
				s.Lines[q], s.Cut[q] = []api.Line{{Place: 5}}, 0
				*f.of(&s.Lines[q][0]) = n
			})
		}
	}
}

func addWrongRows(c *changed[api.State], q int) {
	in := " in partition " + strconv.Itoa(q)
	lines := func(name string, l []api.Line) {
		c.add(name+in, func(s *api.State) { s.Lines[q], s.Cut[q] = l, 0 })
	}
	lines("one line more than the most", linesOf(17, 0))
	lines("many lines", linesOf(60000, 0))
	lines("offsets past the last", linesOf(2, lastOffset))
	lines("many offsets past the last", linesOf(16, lastOffset-14))
	for i := range 4 {
		at := " at line " + strconv.Itoa(i)
		change := func(name string, how func(l []api.Line)) {
			l := fourLines()
			how(l)
			lines(name+at, l)
		}
		change("an offset more", func(l []api.Line) { l[i].Offset += 2 })
		change("an offset less", func(l []api.Line) { l[i].Offset -= 2 })
		if i == 0 {
			continue
		}
		change("an offset twice", func(l []api.Line) { l[i].Offset-- })
		change("an offset left out", func(l []api.Line) { l[i].Offset++ })
		change("the same place and J", func(l []api.Line) { l[i].Place, l[i].J = l[i-1].Place, l[i-1].J })
		change("a place that falls", func(l []api.Line) { l[i].Place = l[i-1].Place - 1 })
		change("a place that falls, J that rises", func(l []api.Line) { l[i].Place, l[i].J, l[i-1].J = l[i-1].Place-1, 3, 0 })
		change("a J that falls", func(l []api.Line) { l[i].Place, l[i].J, l[i-1].J = l[i-1].Place, 0, 1 })
	}
}

func addWrongCuts(c *changed[api.State], q int) {
	in := " in partition " + strconv.Itoa(q)
	for _, n := range aid.Outside(0, 70000) {
		c.add("cut "+strconv.Itoa(n)+in, func(s *api.State) { s.Cut[q] = n })
		c.add("cut "+strconv.Itoa(n)+" of no lines"+in, func(s *api.State) { s.Lines[q], s.Cut[q] = nil, n })
		c.add("cut "+strconv.Itoa(n)+" of one line"+in, func(s *api.State) { s.Lines[q], s.Cut[q] = []api.Line{{Place: 70000}}, n })
	}
	for _, n := range []int{20, 21, 30, 69999, 70000} {
		c.add("cut "+strconv.Itoa(n)+" of lines from place 20 on"+in, func(s *api.State) { s.Lines[q], s.Cut[q] = fourLines(), n })
	}
	c.add("cut at its only line"+in, func(s *api.State) { s.Lines[q], s.Cut[q] = []api.Line{{Place: 1}}, 1 })
}

// plainStands tells whether the state may be, as the chapter tells it.
func plainStands(s api.State) bool {
	if s.Place < 0 || s.Place > greatest {
		return false
	}
	least := 0
	for _, i := range s.Items {
		if i.Key < least || i.Key > lastKey || i.Place < 1 || i.Place > s.Place || i.Value < 0 || i.Value > 255 {
			return false
		}
		least = i.Key + 1
	}
	for q, lines := range s.Lines {
		if s.Cut[q] < 0 || s.Cut[q] > s.Place || !plainLines(lines, s.Cut[q], s.Place) {
			return false
		}
	}
	return true
}

func plainLines(lines []api.Line, cut, place int) bool {
	if len(lines) > 16 {
		return false
	}
	ahead := 4*cut + 3 // the last (Place, J) that has to be below
	for i, l := range lines {
		if l.Offset != lines[0].Offset+i || l.Offset < 0 || l.Offset > lastOffset || l.Place < 1 || l.Place > place {
			return false
		}
		if l.J < 0 || l.J > 3 || l.Key < 0 || l.Key > 7 || l.Value < 0 || l.Value > 255 || 4*l.Place+l.J <= ahead {
			return false
		}
		ahead = 4*l.Place + l.J
	}
	return true
}

// plainStateBytes answers the state's bytes, as the chapter tells them.
func plainStateBytes(s api.State) []byte {
	b := append(three(s.Place), byte(len(s.Items)))
	for _, i := range s.Items {
		b = append(b, byte(i.Key))
		b = append(b, three(i.Place)...)
		b = append(b, byte(i.Value))
	}
	for q, lines := range s.Lines {
		b = append(b, three(s.Cut[q])...)
		b = append(b, byte(len(lines)))
		first := []byte{0, 0, 0}
		if len(lines) > 0 {
			first = three(lines[0].Offset)
		}
		b = append(b, first...)
		for _, l := range lines {
			b = append(b, three(l.Place)...)
			b = append(b, byte(l.J+16*l.Key), byte(l.Value))
		}
	}
	return b
}

// plainReadState answers the state of which b are just the bytes, as the chapter tells it.
func plainReadState(b []byte) (api.State, bool) {
	s := api.State{}
	at := 0
	next := func(width int) int {
		n := 0
		for i := range width {
			if at+i < len(b) {
				n += int(b[at+i]) << (8 * i)
			}
		}
		at += width
		return n
	}
	s.Place = next(3)
	for range next(1) {
		s.Items = append(s.Items, api.Item{Key: next(1), Place: next(3), Value: next(1)})
	}
	for q := range s.Lines {
		s.Cut[q] = next(3)
		many := next(1)
		first := next(3)
		if many == 0 && first != 0 {
			return s, false
		}
		for i := range many {
			place, both := next(3), next(1)
			s.Lines[q] = append(s.Lines[q], api.Line{Offset: first + i, Place: place, J: both & 15, Key: both >> 4, Value: next(1)})
		}
	}
	return s, at == len(b) && plainStands(s)
}

// alikeStates holds states against each other without the package.
func alikeStates(a, b api.State) bool {
	for q := range 3 {
		if a.Cut[q] != b.Cut[q] || !slices.Equal(a.Lines[q], b.Lines[q]) {
			return false
		}
	}
	return a.Place == b.Place && slices.Equal(a.Items, b.Items)
}
