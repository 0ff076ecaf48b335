package frame_test

import (
	"strconv"
	"strings"
	"testing"

	"flume/api"
	"flume/frame"
)

func TestReadOfFrames(t *testing.T) {
	checkRead(t, "\x01\x00\x00\x00\x00\x00\x00\x00\xf7\xdf\x88\xa9", 1, "")
	checkRead(t, "\x05\x00\x00\x00\x00\x00\x03\x00abc\xae\xff\x15\x97", 5, "abc")
	checkRead(t, "\xff\xff\x0f\x00\x00\x00\x02\x00\x00\xff\x83\x86\xa9\x15", greatest, "\x00\xff")
	for size := range long + 1 {
		for _, number := range []int{1, 2, 65536, greatest - 1, greatest} {
			checkRead(t, plain(number, sample(size)), number, sample(size))
		}
	}
	for number := 1; number <= greatest; number += 97 {
		checkRead(t, plain(number, "load"), number, "load")
	}
}

func TestReadOfAFrameInAFrame(t *testing.T) {
	inner := plain(5, "abc")
	checkRead(t, plain(1, inner), 1, inner)
	checkNone(t, "a frame sealed anew", sealed(inner))
}

func TestReadOfBytesThatAreNone(t *testing.T) {
	checkNone(t, "no bytes", "")
	for size := range 12 {
		checkNone(t, "noughts", strings.Repeat("\x00", size))
		checkNone(t, "the front of a frame", plain(1, "")[:size])
		checkNone(t, "the end of a frame", plain(1, "")[12-size:])
	}
	checkNone(t, "noughts", strings.Repeat("\x00", 12))
	checkNone(t, "text", "this is just a text")
	checkNone(t, "text of a frame's length", sample(612))
	checkNone(t, "many bytes", sample(1<<20))
}

func TestReadOfSealedBytesShorterThanAnyFrame(t *testing.T) {
	for size := range 8 {
		checkNone(t, "a sealed piece of a frame's inside", sealed(inside(1, 0, "")[:size]))
		checkNone(t, "sealed noughts", sealed(strings.Repeat("\x00", size)))
	}
}

func TestReadOfNoNumber(t *testing.T) {
	for _, number := range noNumbers {
		if number < 0 || number >= 1<<48 { // not in 6 bytes
			continue
		}
		for _, load := range []string{"", "abc", sample(long)} {
			b := plain(number, load)
			checkNone(t, "a frame of number "+strconv.Itoa(number), b)
			checkNotOf(t, "a frame of its number", api.Sector{N: number, B: b})
		}
	}
}

func TestReadOfNumbersByEachBit(t *testing.T) {
	for bit := range 48 {
		b := sealed(inside(1<<bit, 1, "x"))
		if bit < 20 {
			checkRead(t, b, 1<<bit, "x")
		} else {
			checkNone(t, "a number of bit "+strconv.Itoa(bit), b)
			checkNone(t, "5 and bit "+strconv.Itoa(bit), sealed(inside(5|1<<bit, 1, "x")))
		}
	}
}

func TestReadOfAnotherCount(t *testing.T) {
	for _, size := range []int{0, 1, 3, 256} {
		load := sample(size)
		for count := range 1 << 16 {
			if count == size {
				continue
			}
			b := sealed(inside(5, count, load))
			if n, got, e := frame.Read(b); n != 0 || got != "" || e != api.ErrCode {
				t.Fatalf("P4.2: a load of %d bytes and the count %d is read: %d, %d bytes, %v", size, count, n, len(got), e)
			}
			if _, ok := frame.Of(api.Sector{N: 5, B: b}); ok {
				t.Fatalf("P4.2: Of a load of %d bytes and the count %d is true", size, count)
			}
		}
	}
}

func TestReadOfAnotherCountOfALongLoad(t *testing.T) {
	for _, count := range []int{0, 1, long - 1, long + 1, 88, long + 256, long + 1024, long + 1<<15, 1<<16 - 1} {
		checkNone(t, "a long load and the count "+strconv.Itoa(count), sealed(inside(5, count, sample(long))))
	}
}

func TestReadOfALoadTooLong(t *testing.T) {
	for _, size := range []int{long + 1, long + 2, 640, 1024, 65535} {
		checkNone(t, "a load of "+strconv.Itoa(size), plain(5, sample(size)))
	}
	checkNone(t, "a load whose length has no 2 bytes", sealed(inside(5, 3, sample(65536+3))))
}

func TestReadOfOtherSums(t *testing.T) {
	head := inside(5, 3, "abc")
	for _, sum := range []string{
		"\x97\x15\xff\xae", "\x00\x00\x00\x00", "\xff\xff\xff\xff", "\x51\x00\xea\x68",
		"\xaf\xff\x15\x97", "\xae\xfe\x15\x97", "\xae\xff\x14\x97", "\xae\xff\x15\x96",
	} {
		checkNone(t, "another sum", head+sum)
	}
	checkNone(t, "no sum", head)
	checkNone(t, "the sum ahead", "\xae\xff\x15\x97"+head)
	checkNone(t, "a sum of the load alone", head+sealed("abc")[3:])
	checkNone(t, "a sum without the number", head+sealed(head[6:])[5:])
}

func TestReadOfOtherLayouts(t *testing.T) {
	for what, b := range map[string]string{
		"the highest byte of the number first":  "\x00\x00\x00\x00\x00\x05\x03\x00abc",
		"the highest byte of the count first":   "\x05\x00\x00\x00\x00\x00\x00\x03abc",
		"the count ahead":                       "\x03\x00\x05\x00\x00\x00\x00\x00abc",
		"the load ahead":                        "abc\x05\x00\x00\x00\x00\x00\x03\x00",
		"no count":                              "\x05\x00\x00\x00\x00\x00abc",
		"a number of 3 bytes":                   "\x05\x00\x00\x03\x00abc",
		"a number of 8 bytes":                   "\x05\x00\x00\x00\x00\x00\x00\x00\x03\x00abc",
		"a count of 1 byte":                     "\x05\x00\x00\x00\x00\x00\x03abc",
		"a count of 4 bytes":                    "\x05\x00\x00\x00\x00\x00\x03\x00\x00\x00abc",
		"a count of the whole frame":            inside(5, 15, "abc"),
		"a count of all that is sealed":         inside(5, 11, "abc"),
		"a nought behind the load":              inside(5, 3, "abc\x00"),
		"a nought ahead of the frame":           "\x00" + inside(5, 3, "abc"),
		"two frames' insides behind each other": inside(5, 3, "abc") + inside(5, 3, "abc"),
	} {
		checkNone(t, what, sealed(b))
	}
	checkNone(t, "two frames behind each other", plain(5, "abc")+plain(6, "abc"))
}

// All frames' bytes of 12 and 13 whose number has just one byte that is not 0.
func TestReadOfSmallSealedBytes(t *testing.T) {
	for at := range 6 {
		for c := range 256 {
			for count := range 3 {
				for _, load := range []string{"", "x"} {
					number := uint64(c) << (8 * at)
					b := sealed(inside(number, count, load))
					if number >= 1 && number <= greatest && count == len(load) {
						checkRead(t, b, int(number), load)
					} else {
						checkNone(t, "number "+strconv.FormatUint(number, 10)+", count "+strconv.Itoa(count), b)
					}
				}
			}
		}
	}
}

func TestOfNeedsTheSectorsNumber(t *testing.T) {
	for _, number := range []int{1, 5, 256, greatest} {
		for _, load := range []string{"", "abc", sample(long)} {
			b := plain(number, load)
			checkOf(t, api.Sector{N: number, B: b}, load)
			for _, other := range append(noNumbers, 2, 3, 6, 257, number+1, number-1, -number, number+1<<20, number+1<<32, number+1<<48) {
				checkNotOf(t, "a frame of number "+strconv.Itoa(number), api.Sector{N: other, B: b})
			}
		}
	}
}

func TestOfSectorsWithoutAFrame(t *testing.T) {
	checkNotOf(t, "a new sector", api.Sector{})
	for _, n := range append(noNumbers, 1, 5, greatest) {
		checkNotOf(t, "no bytes", api.Sector{N: n})
		checkNotOf(t, "a load without a frame", api.Sector{N: n, B: "abc"})
		checkNotOf(t, "a frame's inside", api.Sector{N: n, B: inside(uint64(n), 3, "abc")})
	}
	checkNotOf(t, "number 0 in both", api.Sector{B: plain(0, "abc")})
	checkNotOf(t, "a frame in a sector of number 0", api.Sector{B: plain(5, "abc")})
}
