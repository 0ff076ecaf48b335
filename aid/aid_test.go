package aid_test

import (
	"slices"
	"testing"

	"flume/aid"
)

// told counts what it is told.
type told int

func (n *told) Helper() {}

func (n *told) Errorf(string, ...any) { *n++ }

func TestCheckRoomTellsEachChange(t *testing.T) {
	const mark = 9
	for name, c := range map[string]struct {
		change func(l []int)
		want   told
	}{
		"nothing":              {func(l []int) {}, 0},
		"the list":             {func(l []int) { l[1] = 7 }, 1},
		"the room's first":     {func(l []int) { _ = append(l, 4) }, 1},
		"the room's last":      {func(l []int) { l[:43][42] = 4 }, 1},
		"the list and the row": {func(l []int) { aid.Fill(l, 4) }, 2},
	} {
		l := aid.Roomy([]int{1, 2, 3}, mark)
		c.change(l)
		var n told
		if aid.CheckRoom(&n, "a test", l, []int{1, 2, 3}, mark); n != c.want {
			t.Errorf("a change of %s is told %d times, asked is %d", name, n, c.want)
		}
	}
}

func TestFillFillsTheRoomToo(t *testing.T) {
	l := make([]int, 2, 5)
	if aid.Fill(l, 3); !slices.Equal(l[:5], []int{3, 3, 3, 3, 3}) {
		t.Errorf("filled is %v", l[:5])
	}
}

func TestOutsideIsOutsideOnBothSides(t *testing.T) {
	for _, c := range [][2]int{{0, 0}, {0, 23}, {1, 1 << 20}, {-1, 1<<20 - 1}} {
		l := aid.Outside(c[0], c[1])
		if !slices.Contains(l, c[0]-1) || !slices.Contains(l, c[1]+1) {
			t.Errorf("outside %v are %v: not what is just past it", c, l)
		}
		for _, n := range l {
			if c[0] <= n && n <= c[1] {
				t.Errorf("outside %v is %d", c, n)
			}
		}
	}
}

func TestRollingIsTheSameForTheSameSeed(t *testing.T) {
	a, b, other := aid.Rolling(1), aid.Rolling(1), aid.Rolling(2)
	differ, drawn := false, map[int]int{}
	for range 1000 {
		n := a(6)
		if n != b(6) || n < 0 || n > 5 {
			t.Fatalf("drawn is %d", n)
		}
		drawn[n]++
		differ = differ || n != other(6)
	}
	if !differ || len(drawn) != 6 {
		t.Errorf("drawn are %v, for another seed other ones: %t", drawn, differ)
	}
}
