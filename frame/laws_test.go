package frame_test

import (
	"math"
	"strings"
	"testing"

	"flume/api"
	"flume/frame"
)

// framed answers what Bytes answers, which has to be a frame.
func framed(t *testing.T, number int, load string) string {
	t.Helper()
	b, e := frame.Bytes(number, load)
	if e != api.OK {
		t.Fatalf("P4.1: Bytes(%d, %d bytes) is %v", number, len(load), e)
	}
	return b
}

func TestReadOfBytesIsWhatWasFramed(t *testing.T) {
	for size := range long + 1 {
		number := 1 + size*1747
		checkRead(t, framed(t, number, sample(size)), number, sample(size))
	}
	for _, number := range []int{1, greatest} {
		for _, load := range []string{"", "\x00", strings.Repeat("\x00", long), strings.Repeat("\xff", long), "é€"} {
			checkRead(t, framed(t, number, load), number, load)
		}
	}
}

func TestBytesOfReadAreTheBytes(t *testing.T) {
	for size := range long + 1 {
		b := plain(greatest-size, sample(size))
		number, load, e := frame.Read(b)
		if e != api.OK {
			t.Fatalf("P4.3: a frame of %d bytes is not read: %v", len(b), e)
		}
		if again := framed(t, number, load); again != b {
			t.Fatalf("P4.3: a frame of %d bytes, read and framed anew, is another one", len(b))
		}
	}
}

func TestFramesCutOrWithMore(t *testing.T) {
	for _, size := range []int{0, 1, 2, 3, 4, 5, 20, long - 1, long} {
		b := framed(t, 5, sample(size))
		for short := range len(b) {
			checkNone(t, "a frame's front", b[:short])
		}
		for from := 1; from < len(b); from++ {
			checkNone(t, "a frame's end", b[from:])
		}
		for c := range 256 {
			one := string([]byte{byte(c)})
			checkNone(t, "a frame with one more", b+one)
			checkNone(t, "a frame with one more ahead", one+b)
			checkNone(t, "a frame with one more ahead of the sum", b[:len(b)-4]+one+b[len(b)-4:])
		}
	}
}

// turn answers b with the bits of burst turned, its lowest one at bit at (of each byte the lowest bit first).
func turn(b string, at int, burst uint32) string {
	turned := []byte(b)
	for bit := range 32 {
		if burst>>bit&1 == 1 {
			turned[(at+bit)/8] ^= 1 << ((at + bit) % 8)
		}
	}
	return string(turned)
}

// checkBurst turns the burst, of that width, in the frame of number 5, from bit 0 on and so on by every bits.
func checkBurst(t *testing.T, b string, burst uint32, width, every int) {
	t.Helper()
	for at := 0; at+width <= 8*len(b); at += every {
		turned := turn(b, at, burst)
		if n, load, e := frame.Read(turned); n != 0 || load != "" || e != api.ErrCode {
			t.Fatalf("P4.3: a frame of %d bytes with %#x turned from bit %d on is read: %d, %q, %v", len(b), burst, at, n, load, e)
		}
		if load, ok := frame.Of(api.Sector{N: 5, B: turned}); load != "" || ok {
			t.Fatalf("P4.3: a frame of %d bytes with %#x turned from bit %d on is one of its sector", len(b), burst, at)
		}
	}
}

func TestFramesInWhichOneBitIsTurned(t *testing.T) {
	for _, size := range []int{0, 1, 3, 255, 256, long} {
		checkBurst(t, framed(t, 5, sample(size)), 1, 1, 1)
	}
}

func TestFramesInWhichABurstIsTurned(t *testing.T) {
	for _, size := range []int{0, 1, 2, 3, 25} {
		b := framed(t, 5, sample(size))
		for width := 2; width <= 32; width++ {
			outer := uint32(1) | 1<<(width-1)
			all := uint32(math.MaxUint32) >> (32 - width)
			for _, between := range []uint32{0, math.MaxUint32, 0x55555555, 0xEDB88320, 0x12345678} {
				checkBurst(t, b, outer|between&all, width, 1)
			}
		}
	}
}

func TestLongFramesInWhichABurstIsTurned(t *testing.T) {
	b := framed(t, 5, sample(long))
	for _, burst := range []uint32{0x80000001, 0xEDB88321, math.MaxUint32} {
		checkBurst(t, b, burst, 32, 3)
	}
}

// A burst may make another number, or another count, that may be: the sum tells it all the same.
func TestBurstsThatMakeOtherNumbersAndCounts(t *testing.T) {
	b := framed(t, 5, "abc")
	for other := 1; other <= greatest; other += 31 {
		if burst := uint32(5 ^ other); burst != 0 {
			checkNone(t, "another number and the old sum", turn(b, 0, burst))
		}
	}
	for count := range 1 << 16 {
		if burst := uint32(3 ^ count); burst != 0 {
			checkNone(t, "another count and the old sum", turn(b, 48, burst))
		}
	}
}

func TestWhatIsReadLeansOnNothing(t *testing.T) {
	type read struct {
		number int
		load   string
	}
	all := make([]byte, 0, 4096)
	var kept []read
	for number := 1; number <= 40; number++ {
		all = append(all[:0], plain(number, sample(number))...)
		n, load, _ := frame.Read(string(all))
		kept = append(kept, read{n, load})
		of, _ := frame.Of(api.Sector{N: number, B: string(all)})
		kept = append(kept, read{number, of})
		clear(all[:cap(all)])
	}
	for i, r := range kept {
		if number := i/2 + 1; r.number != number || r.load != sample(number) {
			t.Errorf("R4: what was read of number %d is %d, %q behind others", number, r.number, r.load)
		}
	}
}

func TestTheSameIsAnsweredAnew(t *testing.T) {
	frames := []string{plain(1, ""), plain(5, "abc"), plain(0, "abc"), "", plain(greatest, sample(long)), plain(5, sample(long+1))}
	for range 3 {
		for i, b := range frames {
			n, load, e := frame.Read(b)
			for _, other := range frames {
				frame.Read(other)
				frame.Of(api.Sector{N: 5, B: other})
				frame.Bytes(len(other), other)
				frame.Size(len(other))
			}
			if m, again, f := frame.Read(b); m != n || again != load || f != e {
				t.Errorf("R3: frame %d is read otherwise behind other calls", i)
			}
		}
	}
}
