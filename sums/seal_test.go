package sums_test

import (
	"hash/crc32"
	"slices"
	"testing"

	"flume/api"
	"flume/sums"
)

// checkOpen holds what Open answers against the bytes that are asked for.
func checkOpen(t *testing.T, b, want []byte) {
	t.Helper()
	if got, e := sums.Open(b); e != api.OK || !slices.Equal(got, want) {
		t.Errorf("P2.2: Open(%v) is %v, %v; asked is %v", b, got, e, want)
	}
}

func checkShut(t *testing.T, b []byte) {
	t.Helper()
	if got, e := sums.Open(b); e != api.ErrCode || len(got) != 0 {
		t.Errorf("P2.2: Open(%v) is %v, %v; asked is ErrCode alone", b, got, e)
	}
}

func TestSealHasTheSumBehind(t *testing.T) {
	for _, c := range []struct{ b, want string }{
		{"", "\x00\x00\x00\x00"},
		{"\x00", "\x00\x8d\xef\x02\xd2"},
		{"\xff\xff\xff\xff", "\xff\xff\xff\xff\xff\xff\xff\xff"},
		{"a", "a\x43\xbe\xb7\xe8"},
		{"123456789", "123456789\x26\x39\xf4\xcb"},
	} {
		if got := sums.Seal([]byte(c.b)); string(got) != c.want {
			t.Errorf("P2.2: Seal(%q) is %q; asked is %q", c.b, got, c.want)
		}
		checkOpen(t, []byte(c.want), []byte(c.b))
	}
	if got := sums.Seal(nil); string(got) != "\x00\x00\x00\x00" {
		t.Errorf("P2.2: Seal(nil) is %v", got)
	}
}

func TestOpenOfSealIsWhatWasSealed(t *testing.T) {
	sizes := []int{600, 608, 640, 5000, 1 << 17}
	for size := range 70 {
		sizes = append(sizes, size)
	}
	for _, size := range sizes {
		b := sample(size)
		sealed := sums.Seal(b)
		if len(sealed) != size+4 || !slices.Equal(sealed[:size], b) {
			t.Fatalf("P2.2: %d bytes, sealed, are %d, or others", size, len(sealed))
		}
		if got, e := sums.Open(sealed); e != api.OK || !slices.Equal(got, b) {
			t.Errorf("P2.3: Open of Seal of %d bytes is %d bytes, %v", size, len(got), e)
		}
	}
}

func TestSealedTwiceOpensTwice(t *testing.T) {
	b := sample(9)
	twice := sums.Seal(sums.Seal(b))
	once, e := sums.Open(twice)
	if e != api.OK || !slices.Equal(once, sums.Seal(b)) {
		t.Errorf("P2.3: the outer seal opens to %v, %v", once, e)
	}
	checkOpen(t, once, b)
}

func TestOpenNeedsFourBytes(t *testing.T) {
	for _, b := range [][]byte{
		nil, {}, {0}, {0, 0}, {0, 0, 0}, {1}, {255, 255, 255}, sums.Seal(nil)[:3],
	} {
		checkShut(t, b)
	}
}

func TestOpenOfJustASum(t *testing.T) {
	checkOpen(t, []byte{0, 0, 0, 0}, nil)
	checkShut(t, []byte{1, 0, 0, 0})
	checkShut(t, []byte{0, 0, 0, 1})
	checkShut(t, []byte{0, 0, 0, 128})
	checkShut(t, []byte{255, 255, 255, 255})
}

func TestOpenOfOtherSums(t *testing.T) {
	b := []byte("123456789")
	for _, sum := range [][]byte{
		{0xcb, 0xf4, 0x39, 0x26}, // the highest byte first
		{0xd9, 0xc6, 0x0b, 0x34}, // the bits not turned
		{0, 0, 0, 0},
		{0x26, 0x39, 0xf4, 0xca},
		{0x27, 0x39, 0xf4, 0xcb},
		{0x26, 0x38, 0xf4, 0xcb},
		{0x26, 0x39, 0xf5, 0xcb},
	} {
		checkShut(t, slices.Concat(b, sum))
	}
	checkShut(t, slices.Concat([]byte{0x26, 0x39, 0xf4, 0xcb}, b)) // the sum ahead
}

func TestOpenOfSealedBytesCutOrWithMore(t *testing.T) {
	sealed := sums.Seal(sample(20))
	for size := range len(sealed) {
		checkShut(t, sealed[:size])
	}
	for at := 1; at < len(sealed); at++ {
		checkShut(t, sealed[at:])
	}
	for _, c := range []byte{0, 1, 127, 255} {
		checkShut(t, append(slices.Clone(sealed), c))
		checkShut(t, append([]byte{c}, sealed...))
	}
}

func TestOpenOfBytesOfTwoSeals(t *testing.T) {
	a, b := sums.Seal([]byte("key 3")), sums.Seal([]byte("key 4"))
	checkShut(t, slices.Concat(a[:5], b[5:]))
	checkShut(t, slices.Concat(b[:5], a[5:]))
	checkShut(t, slices.Concat(a, b))
	a[0], a[1] = a[1], a[0]
	checkShut(t, a)
}

func TestOpenJustWhereTheSumIsRight(t *testing.T) {
	for n := range 1 << 16 {
		b := []byte{byte(n), byte(n >> 8), 7, 9, 1}
		sum := crc32.ChecksumIEEE(b[:1])
		right := b[1] == byte(sum) && b[2] == byte(sum>>8) && b[3] == byte(sum>>16) && b[4] == byte(sum>>24)
		if _, e := sums.Open(b); (e == api.OK) != right {
			t.Fatalf("P2.2: Open(%v) is %v", b, e)
		}
	}
}

func TestOpenLeavesSpareRoomUnread(t *testing.T) {
	whole := append(sums.Seal([]byte("abc")), 1, 2, 3, 4)
	checkOpen(t, whole[:7], []byte("abc"))
	checkShut(t, whole[:6])
	checkShut(t, whole[:8])
}

func TestSealLeavesWhatItWasGiven(t *testing.T) {
	whole := []byte{1, 2, 3, 90, 91, 92, 93, 94, 95}
	kept := slices.Clone(whole)
	sealed := sums.Seal(whole[:3])
	if !slices.Equal(whole, kept) {
		t.Fatalf("R4: Seal wrote into spare room: %v", whole)
	}
	clear(sealed[:cap(sealed)])
	if !slices.Equal(whole, kept) {
		t.Fatalf("R4: Seal's answer shares memory: %v", whole)
	}
}

func TestSealsAnswersShareNothing(t *testing.T) {
	b := []byte{5, 6, 7}
	first, second := sums.Seal(b), sums.Seal(b)
	clear(b)
	clear(first[:cap(first)])
	checkOpen(t, second, []byte{5, 6, 7})
}

func TestOpenLeavesWhatItWasGiven(t *testing.T) {
	whole := append(sums.Seal([]byte{5, 6, 7}), 8, 9)
	kept := slices.Clone(whole)
	first, _ := sums.Open(whole[:7])
	second, _ := sums.Open(whole[:7])
	clear(first[:cap(first)])
	if !slices.Equal(whole, kept) || !slices.Equal(second, []byte{5, 6, 7}) {
		t.Errorf("R4: Open's answer shares memory: %v, %v", whole, second)
	}
	third, _ := sums.Open(whole[:7])
	clear(whole)
	if !slices.Equal(third, []byte{5, 6, 7}) {
		t.Errorf("R4: Open's answer follows what was handed in: %v", third)
	}
}
