package sums_test

import (
	"hash/crc32"
	"math"
	"slices"
	"testing"

	"flume/sums"
)

// sample answers size bytes without a plain pattern, the same ones whenever it is asked.
func sample(size int) []byte {
	b := make([]byte, size)
	n := uint32(size)*2654435761 + 1
	for i := range b {
		n = n*1664525 + 1013904223
		b[i] = byte(n >> 24)
	}
	return b
}

func TestStepOfKnownNumbers(t *testing.T) {
	for _, c := range []struct{ n, want uint32 }{
		{0, 0},
		{1, 0xEDB88320},
		{2, 1},
		{3, 0xEDB88321},
		{4, 2},
		{0x80000000, 0x40000000},
		{0x80000001, 0xADB88320},
		{0xFFFFFFFE, 0x7FFFFFFF},
		{math.MaxUint32, 0x92477CDF},
		{0xEDB88320, 0x76DC4190},
	} {
		if got := sums.Step(c.n); got != c.want {
			t.Errorf("P2.1: Step(%#x) is %#x; asked is %#x", c.n, got, c.want)
		}
	}
}

func TestStepOfEachBit(t *testing.T) {
	for bit := 1; bit < 32; bit++ {
		n := uint32(1) << bit
		if got := sums.Step(n); got != n>>1 {
			t.Errorf("P2.1: Step(%#x) is %#x; asked is %#x", n, got, n>>1)
		}
		if got := sums.Step(n | 1); got != n>>1^0xEDB88320 {
			t.Errorf("P2.1: Step(%#x) is %#x; asked is %#x", n|1, got, n>>1^0xEDB88320)
		}
	}
}

func TestEightStepsAreARowOfTheTable(t *testing.T) {
	for i, want := range crc32.IEEETable {
		n := uint32(i)
		for range 8 {
			n = sums.Step(n)
		}
		if n != want {
			t.Errorf("P2.1: 8 steps of %d are %#x; asked is %#x", i, n, want)
		}
	}
}

func TestSumOfKnownBytes(t *testing.T) {
	for _, c := range []struct {
		b    string
		want uint32
	}{
		{"", 0},
		{"\x00", 0xD202EF8D},
		{"\xff", 0xFF000000},
		{"\x00\x00\x00\x00", 0x2144DF1C},
		{"\xff\xff\xff\xff", 0xFFFFFFFF},
		{"a", 0xE8B7BE43},
		{"abc", 0x352441C2},
		{"123456789", 0xCBF43926},
		{"The quick brown fox jumps over the lazy dog", 0x414FA339},
	} {
		if got := sums.Sum([]byte(c.b)); got != c.want {
			t.Errorf("P2.1: the sum of %q is %#x; asked is %#x", c.b, got, c.want)
		}
	}
}

func TestSumOfNoBytes(t *testing.T) {
	for _, b := range [][]byte{nil, {}, sample(3)[:0]} {
		if got := sums.Sum(b); got != 0 {
			t.Errorf("P2.1: the sum of no bytes is %#x", got)
		}
	}
}

func TestSumOfEachByte(t *testing.T) {
	for c := range 256 {
		b := []byte{byte(c)}
		if got, want := sums.Sum(b), crc32.ChecksumIEEE(b); got != want {
			t.Errorf("P2.1: the sum of %v is %#x; asked is %#x", b, got, want)
		}
	}
}

func TestSumOfManyLengths(t *testing.T) {
	sizes := []int{600, 640, 4095, 4096, 65537, 1 << 20}
	for size := range 130 {
		sizes = append(sizes, size)
	}
	for _, size := range sizes {
		b := sample(size)
		kept := slices.Clone(b)
		if got, want := sums.Sum(b), crc32.ChecksumIEEE(b); got != want {
			t.Errorf("P2.1: the sum of %d bytes is %#x; asked is %#x", size, got, want)
		}
		if !slices.Equal(b, kept) {
			t.Errorf("R4: Sum changed its %d bytes", size)
		}
	}
}

func TestSumHangsOnEachByteAndOnTheirOrder(t *testing.T) {
	b := sample(40)
	whole := sums.Sum(b)
	for i := range b {
		other := slices.Clone(b)
		other[i]++
		if sums.Sum(other) == whole {
			t.Errorf("P2.1: byte %d is not in the sum", i)
		}
	}
	slices.Reverse(b)
	if sums.Sum(b) == whole {
		t.Error("P2.1: the sum does not hang on the order")
	}
	if sums.Sum([]byte{0}) == sums.Sum([]byte{0, 0}) {
		t.Error("P2.1: the sum does not hang on how many noughts there are")
	}
}

func TestSumLeavesSpareRoomUnread(t *testing.T) {
	b := []byte("123456789 and more")
	if got := sums.Sum(b[:9]); got != 0xCBF43926 {
		t.Errorf("P2.1: the sum of 9 bytes of more is %#x", got)
	}
	if got := sums.More(sums.Sum(b[:4]), b[4:9]); got != 0xCBF43926 {
		t.Errorf("P2.1: More of 5 bytes of more is %#x", got)
	}
}

func TestMoreAtEachCut(t *testing.T) {
	b := sample(70)
	want := sums.Sum(b)
	for cut := 0; cut <= len(b); cut++ {
		if got := sums.More(sums.Sum(b[:cut]), b[cut:]); got != want {
			t.Errorf("P2.1: More from byte %d on is %#x; asked is %#x", cut, got, want)
		}
	}
}

func TestMoreByteByByte(t *testing.T) {
	b := sample(70)
	n := sums.Sum(nil)
	for i := range b {
		n = sums.More(n, b[i:i+1])
		if want := crc32.ChecksumIEEE(b[:i+1]); n != want {
			t.Errorf("P2.1: the sum of %d bytes, by More, is %#x; asked is %#x", i+1, n, want)
		}
	}
}

func TestMoreOfAnyNumber(t *testing.T) {
	texts := [][]byte{{0}, {255}, {1, 2}, sample(4), sample(33)}
	for _, sum := range []uint32{0, 1, 0x7FFFFFFF, 0x80000000, 0xEDB88320, 0xCBF43926, math.MaxUint32 - 1, math.MaxUint32} {
		if got := sums.More(sum, nil); got != sum {
			t.Errorf("P2.1: More(%#x, nil) is %#x", sum, got)
		}
		if got := sums.More(sum, []byte{}); got != sum {
			t.Errorf("P2.1: More(%#x, no bytes) is %#x", sum, got)
		}
		for _, b := range texts {
			if got, want := sums.More(sum, b), crc32.Update(sum, crc32.IEEETable, b); got != want {
				t.Errorf("P2.1: More(%#x, %v) is %#x; asked is %#x", sum, b, got, want)
			}
		}
	}
}
