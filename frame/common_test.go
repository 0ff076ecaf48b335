package frame_test

import (
	"encoding/binary"
	"hash/crc32"
	"math"
	"testing"

	"flume/api"
	"flume/frame"
)

const (
	greatest = 1048575 // of numbers
	long     = 600     // bytes of a load
)

// noNumbers are numbers that no frame has: just past the bounds, far beyond, and such that fewer bits would make one of them.
var noNumbers = []int{
	0, -1, -2, -greatest, greatest + 1, greatest + 2, 1<<21 + 1, 1<<24 + 1, 1<<32 + 1, 1<<48 - 1, 1 << 48, 1<<48 + 1,
	math.MinInt, math.MinInt + 1, math.MaxInt,
}

// sample answers a load of so many bytes, among which are 0 and such as are no text.
func sample(size int) string {
	b := make([]byte, size)
	for i := range b {
		b[i] = byte(i*167 + i/256)
	}
	return string(b)
}

// sealed answers b with the library's sum behind it, the lowest byte first.
func sealed(b string) string {
	return string(binary.LittleEndian.AppendUint32([]byte(b), crc32.ChecksumIEEE([]byte(b))))
}

// inside answers what is sealed in a frame: 6 bytes of the number, 2 of the count, the load.
func inside(number uint64, count int, load string) string {
	b := binary.LittleEndian.AppendUint64(nil, number)[:6]
	b = binary.LittleEndian.AppendUint16(b, uint16(count))
	return string(b) + load
}

// plain answers the frame as the chapter tells it.
func plain(number int, load string) string {
	return sealed(inside(uint64(number), len(load), load))
}

// checkRead holds Read, and Of in a sector of that number, against what is asked.
func checkRead(t *testing.T, b string, number int, load string) {
	t.Helper()
	n, got, e := frame.Read(b)
	if n != number || got != load || e != api.OK {
		t.Errorf("P4.2: Read of %d bytes is %d, %d bytes, %v; asked is %d, %d bytes", len(b), n, len(got), e, number, len(load))
	}
	checkOf(t, api.Sector{N: number, B: b}, load)
}

func checkOf(t *testing.T, s api.Sector, load string) {
	t.Helper()
	if got, ok := frame.Of(s); got != load || !ok {
		t.Errorf("P4.2: Of sector %d with %d bytes is %d bytes, %t; asked is %d bytes", s.N, len(s.B), len(got), ok, len(load))
	}
}

func checkNotOf(t *testing.T, what string, s api.Sector) {
	t.Helper()
	if got, ok := frame.Of(s); got != "" || ok {
		t.Errorf("P4.2: Of %s (sector %d with %d bytes) is %q, %t; asked is false alone", what, s.N, len(s.B), got, ok)
	}
}

// checkNone holds Read and Of of bytes that are no frame against what is asked, in sectors of each number.
func checkNone(t *testing.T, what, b string) {
	t.Helper()
	if n, got, e := frame.Read(b); n != 0 || got != "" || e != api.ErrCode {
		t.Errorf("P4.2: Read of %s (%d bytes) is %d, %q, %v; asked is ErrCode alone", what, len(b), n, got, e)
	}
	for _, n := range []int{-1, 0, 1, 5, greatest, greatest + 1} {
		checkNotOf(t, what, api.Sector{N: n, B: b})
	}
}
