package frame_test

import (
	"math"
	"strings"
	"testing"

	"flume/api"
	"flume/frame"
)

func checkFramed(t *testing.T, number int, load, want string) {
	t.Helper()
	if got, e := frame.Bytes(number, load); got != want || e != api.OK {
		t.Errorf("P4.1: Bytes(%d, %d bytes) is %x, %v; asked is %x", number, len(load), got, e, want)
	}
}

func checkRefused(t *testing.T, number int, load string) {
	t.Helper()
	if got, e := frame.Bytes(number, load); got != "" || e != api.ErrArg {
		t.Errorf("P4.1: Bytes(%d, %d bytes) is %d bytes, %v; asked is ErrArg alone", number, len(load), len(got), e)
	}
}

func TestBytesAreNumberCountLoadAndSum(t *testing.T) {
	for _, c := range []struct {
		number     int
		load, want string
	}{
		{1, "", "\x01\x00\x00\x00\x00\x00\x00\x00\xf7\xdf\x88\xa9"},
		{5, "abc", "\x05\x00\x00\x00\x00\x00\x03\x00abc\xae\xff\x15\x97"},
		{greatest, "\x00\xff", "\xff\xff\x0f\x00\x00\x00\x02\x00\x00\xff\x83\x86\xa9\x15"},
	} {
		checkFramed(t, c.number, c.load, c.want)
	}
}

func TestBytesOfEachLength(t *testing.T) {
	for size := range long + 1 {
		load := sample(size)
		for _, number := range []int{1, 2, 255, 256, 65536, greatest - 1, greatest} {
			checkFramed(t, number, load, plain(number, load))
		}
	}
}

func TestBytesOfManyNumbers(t *testing.T) {
	for number := 1; number <= greatest; number += 97 {
		checkFramed(t, number, "load", plain(number, "load"))
	}
}

func TestBytesOfLikeLoads(t *testing.T) {
	for _, c := range []string{"\x00", "\xff", "a", "é"} {
		for _, many := range []int{1, 2, 8, 300} {
			load := strings.Repeat(c, many)
			checkFramed(t, 3, load, plain(3, load))
		}
	}
}

func TestBytesOfNoNumber(t *testing.T) {
	for _, number := range noNumbers {
		for _, size := range []int{0, 3, long, long + 1} {
			checkRefused(t, number, sample(size))
		}
	}
}

func TestBytesOfALoadTooLong(t *testing.T) {
	for _, size := range []int{long + 1, long + 2, 640, 641, 1200, 65535, 65536, 65536 + 3, 1 << 20} {
		for _, number := range []int{1, 5, greatest} {
			checkRefused(t, number, sample(size))
		}
	}
}

func TestBytesShareNothing(t *testing.T) {
	spelt := []byte("load of 13 b.")
	kept := make([]string, 0, 40)
	for number := 1; number <= 40; number++ {
		spelt[0] = byte(number)
		b, _ := frame.Bytes(number, string(spelt))
		kept = append(kept, b)
	}
	clear(spelt)
	for i, b := range kept {
		if want := plain(i+1, string(rune(i+1))+"oad of 13 b."); b != want {
			t.Errorf("R4: the frame of number %d is %q behind others; asked is %q", i+1, b, want)
		}
	}
}

func TestSize(t *testing.T) {
	for _, c := range []struct{ load, want int }{
		{0, 12}, {1, 13}, {3, 15}, {255, 267}, {256, 268}, {long - 1, 611}, {long, 612},
		{-1, 0}, {-12, 0}, {-13, 0}, {math.MinInt, 0}, {math.MinInt + 1, 0},
		{long + 1, 0}, {612, 0}, {65536, 0}, {1<<32 + 3, 0}, {math.MaxInt, 0}, {math.MaxInt - 12, 0},
	} {
		if got := frame.Size(c.load); got != c.want {
			t.Errorf("P4.1: Size(%d) is %d; asked is %d", c.load, got, c.want)
		}
	}
}

func TestSizeIsThatOfTheFrame(t *testing.T) {
	for size := range long + 1 {
		b, e := frame.Bytes(9, sample(size))
		if e != api.OK || frame.Size(size) != len(b) {
			t.Errorf("P4.1: Size(%d) is %d, of a frame of %d bytes, %v", size, frame.Size(size), len(b), e)
		}
	}
}
