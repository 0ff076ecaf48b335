package sums_test

import (
	"math"
	"slices"
	"testing"

	"flume/api"
	"flume/sums"
)

// turn answers b with the bits of burst turned, its lowest one at bit at (of each byte the lowest bit first).
func turn(b []byte, at int, burst uint64) []byte {
	b = slices.Clone(b)
	for ; burst != 0; at++ {
		b[at/8] ^= byte(burst&1) << (at % 8)
		burst >>= 1
	}
	return b
}

func checkBurst(t *testing.T, sealed []byte, at int, burst uint32) {
	t.Helper()
	got, e := sums.Open(turn(sealed, at, uint64(burst)))
	if e != api.ErrCode || len(got) != 0 {
		t.Fatalf("P2.3: %d bytes with %#x turned from bit %d on open to %v, %v", len(sealed), burst, at, got, e)
	}
}

// everywhere turns the burst at each bit at which it stands wholly in the bytes.
func everywhere(t *testing.T, sealed []byte, burst uint32, width int) {
	t.Helper()
	for at := 0; at+width <= 8*len(sealed); at++ {
		checkBurst(t, sealed, at, burst)
	}
}

// bursts answers bursts just width bits wide: the outer bits alone, all bits, and some between.
func bursts(width int) []uint32 {
	outer := uint32(1) | 1<<(width-1)
	all := uint32(math.MaxUint32) >> (32 - width)
	l := []uint32{outer, all}
	for _, n := range []uint32{0x55555555, 0xEDB88320, 0x04C11DB7, 0xFF00FF00, 0x12345678, 0x92477CDF} {
		l = append(l, outer|n&all)
	}
	return l
}

func TestBurstsOfEachWidthEverywhere(t *testing.T) {
	for _, size := range []int{0, 1, 2, 3, 4, 5, 11, 40} {
		sealed := sums.Seal(sample(size))
		for width := 1; width <= 32; width++ {
			for _, burst := range bursts(width) {
				everywhere(t, sealed, burst, width)
			}
		}
	}
}

func TestAllBurstsOfElevenBits(t *testing.T) {
	for _, b := range [][]byte{nil, {0}, {255, 255}, sample(5)} {
		sealed := sums.Seal(b)
		for burst := uint32(1); burst < 1<<11; burst++ {
			everywhere(t, sealed, burst, 11)
		}
	}
}

func TestAnyTwoBitsWithin32(t *testing.T) {
	sealed := sums.Seal(sample(60))
	for apart := 1; apart < 32; apart++ {
		everywhere(t, sealed, 1|1<<apart, apart+1)
	}
}

func TestBurstsInTheSumsOwnBytes(t *testing.T) {
	for _, size := range []int{0, 3, 25} {
		sealed := sums.Seal(sample(size))
		for bit := range 32 {
			checkBurst(t, sealed, 8*size+bit, 1)
		}
		for n := uint32(1); n < 5000; n++ {
			checkBurst(t, sealed, 8*size, n*858993459) // odd: none is 0
		}
		checkBurst(t, sealed, 8*size, math.MaxUint32)
	}
}

func TestBurstsOver(t *testing.T) {
	sealed := sums.Seal(sample(10))
	for _, c := range []struct {
		where string
		at    int
		burst uint32
	}{
		{"a byte's end", 7, 3},
		{"the first 32 bits", 0, math.MaxUint32},
		{"the last 32 bits", 80, math.MaxUint32},
		{"five bytes", 12, 0x80000001},
		{"the end of the bytes and the sum's first bit", 79, 3},
		{"half the bytes' last 32 bits, half the sum", 64, 0x80000001},
		{"the last bit", 111, 1},
	} {
		if _, e := sums.Open(turn(sealed, c.at, uint64(c.burst))); e != api.ErrCode {
			t.Errorf("P2.3: a burst over %s is opened: %v", c.where, e)
		}
	}
}

func TestBurstsInLongBytes(t *testing.T) {
	sealed := sums.Seal(sample(640))
	for _, burst := range []uint32{1, 3, 0x81, 0x80000001, 0xEDB88321, math.MaxUint32} {
		for at := 0; at+32 <= 8*len(sealed); at += 5 {
			checkBurst(t, sealed, at, burst)
		}
	}
}

func TestBurstsInLikeBytes(t *testing.T) {
	for _, c := range []byte{0, 255} {
		sealed := sums.Seal(slices.Repeat([]byte{c}, 12))
		for width := 1; width <= 32; width++ {
			everywhere(t, sealed, bursts(width)[1], width)
		}
	}
}

// Open asks for the sum alone: 33 bits can be turned in such a way that it is right again.
func TestThirtyThreeBitsMayGoUntold(t *testing.T) {
	const untold = 1 | 0xEDB88320<<1
	b := sample(20)
	sealed := sums.Seal(b)
	for at := 0; at+33 <= 8*len(sealed); at++ {
		other := turn(sealed, at, untold)
		if got, e := sums.Open(other); e != api.OK || !slices.Equal(got, other[:20]) {
			t.Fatalf("P2.2: bytes whose sum is right (from bit %d on) open to %v, %v", at, got, e)
		}
	}
}
