package request_test

import (
	"slices"
	"testing"

	"flume/aid"
	"flume/api"
	"flume/request"
)

func TestReadByHand(t *testing.T) {
	for _, c := range byHand() {
		checkReadIs(t, "a request by hand", c.b, c.r, api.OK)
	}
}

func TestReadOfRequestsThatMayBe(t *testing.T) {
	for _, c := range rights() {
		checkReadIs(t, "a request "+c.name, plainBytes(c.r), c.r, api.OK)
	}
}

func TestReadOfNoBytes(t *testing.T) {
	checkReadIs(t, "nothing", nil, api.Request{}, api.ErrCode)
	checkReadIs(t, "no bytes", []byte{}, api.Request{}, api.ErrCode)
}

func TestReadOfOtherCounts(t *testing.T) {
	for kind := range 256 {
		for many := range 40 {
			for _, fill := range []byte{0, 1, 24, 255} {
				b := append([]byte{byte(kind)}, slices.Repeat([]byte{fill}, many)...)
				checkRead(t, "like bytes", b)
				if kind > lastKind || len(b) != sizes[kind] {
					checkReadIs(t, "too many or too few", b, api.Request{}, api.ErrCode)
				}
			}
		}
		checkReadIs(t, "many bytes", append([]byte{byte(kind)}, make([]byte, 70000)...), api.Request{}, api.ErrCode)
	}
}

func TestReadOfShortTexts(t *testing.T) {
	for a := range 256 {
		checkRead(t, "one byte", []byte{byte(a)})
		for b := range 256 {
			checkRead(t, "two bytes", []byte{byte(a), byte(b)})
		}
	}
}

// What is wrong is told in the chapter's order, wherever it stands.
func TestReadTellsTheFirstError(t *testing.T) {
	for _, c := range []struct {
		what string
		b    []byte
		want api.Errno
	}{
		{"no such kind", []byte{10}, api.ErrCode},
		{"no such kind, of a get's bytes and a key that is none", []byte{10, 1, 0, 0, 24}, api.ErrCode},
		{"a kind below 0", []byte{255}, api.ErrCode},
		{"a kind of 8 bits, else a begin", []byte{128}, api.ErrCode},
		{"a get without its key", []byte{1, 1, 0, 0}, api.ErrCode},
		{"a get's key that is none", []byte{1, 1, 0, 0, 24}, api.ErrKey},
		{"a get's greatest key", []byte{1, 1, 0, 0, 255}, api.ErrKey},
		{"a get's key that is none, behind no transaction", []byte{1, 0, 0, 0, 24}, api.ErrKey},
		{"a get's key that is none, behind a transaction too great", []byte{1, 1, 0, 16, 24}, api.ErrKey},
		{"a get's key that is none, and a byte more", []byte{1, 1, 0, 0, 24, 0}, api.ErrCode},
		{"a get of no transaction", []byte{1, 0, 0, 0, 23}, api.ErrCode},
		{"a get of a transaction too great", []byte{1, 1, 0, 16, 23}, api.ErrCode},
		{"a put's key that is none", []byte{2, 1, 0, 0, 24, 7}, api.ErrKey},
		{"a put's key that is none, behind no transaction", []byte{2, 0, 0, 0, 24, 7}, api.ErrKey},
		{"a put's key that is none, behind the greatest bytes", []byte{2, 255, 255, 255, 255, 255}, api.ErrKey},
		{"a put's key that is none, without a value", []byte{2, 1, 0, 0, 24}, api.ErrCode},
		{"a put's key that is none, and a byte more", []byte{2, 1, 0, 0, 24, 7, 7}, api.ErrCode},
		{"a put of no transaction", []byte{2, 0, 0, 0, 3, 7}, api.ErrCode},
		{"a commit of no transaction", []byte{3, 0, 0, 0}, api.ErrCode},
		{"a commit of a transaction too great", []byte{3, 1, 0, 16}, api.ErrCode},
		{"a commit, and a key that is none", []byte{3, 1, 0, 0, 24}, api.ErrCode},
		{"an abort of the greatest bytes", []byte{4, 255, 255, 255}, api.ErrCode},
		{"a fetch of no partition", []byte{5, 0, 0, 0, 0, 0, 0, 0, 0, 0, 0, 0, 0, 0}, api.ErrCode},
		{"a fetch of a partition too many", []byte{5, 8, 0, 0, 0, 0, 0, 0, 0, 0, 0, 0, 0, 0}, api.ErrCode},
		{"a fetch of parts that are no key", []byte{5, 24, 0, 0, 0, 0, 0, 0, 0, 0, 0, 0, 0, 0}, api.ErrCode},
		{"a fetch from too far", []byte{5, 7, 0, 0, 16, 0, 0, 0, 0, 0, 0, 0, 0, 0}, api.ErrCode},
		{"a fetch from very far", []byte{5, 7, 0, 0, 0, 0, 0, 1, 0, 0, 0, 0, 0, 0}, api.ErrCode},
		{"a fetch to too far", []byte{5, 7, 0, 0, 0, 0, 0, 0, 1, 0, 16, 0, 0, 0}, api.ErrCode},
		{"a fetch to very far", []byte{5, 7, 0, 0, 0, 0, 0, 0, 255, 255, 255, 255, 255, 255}, api.ErrCode},
		{"a prune's key that is none", []byte{6, 24}, api.ErrKey},
		{"a prune's greatest key", []byte{6, 255}, api.ErrKey},
		{"a prune's key that is none, and a byte more", []byte{6, 24, 0}, api.ErrCode},
		{"a prune without a key", []byte{6}, api.ErrCode},
		{"a begin, and a byte more", []byte{0, 0}, api.ErrCode},
		{"an advance, and a key that is none", []byte{7, 24}, api.ErrCode},
		{"a checkpoint twice", []byte{9, 9}, api.ErrCode},
	} {
		checkReadIs(t, c.what, c.b, api.Request{}, c.want)
	}
}

// Each number that a field's bytes can tell, or the edges of them.
func TestReadOfEachNumberOfAField(t *testing.T) {
	for _, r := range samples() {
		for _, f := range fields() {
			if !f.isOf(r.Kind) {
				continue
			}
			for n := -1; n < 300; n++ {
				checkReadOfField(t, r, f, n)
			}
			for n := f.high - 20; n < f.high+20; n++ {
				checkReadOfField(t, r, f, n)
			}
			for bit := range 8 * f.width {
				checkReadOfField(t, r, f, 1<<bit)
				checkReadOfField(t, r, f, 1<<bit-1)
			}
		}
	}
}

// checkReadOfField reads r with n in that field, if its bytes can tell it.
func checkReadOfField(t *testing.T, r api.Request, f field, n int) {
	t.Helper()
	if stands := n - min(f.low, 0); stands >= 0 && stands>>(8*f.width) == 0 {
		c := with(r, f, n)
		checkRead(t, "a request "+c.name, plainBytes(c.r))
	}
}

func TestReadOfEachPut(t *testing.T) {
	for key := range 256 {
		for value := range 256 {
			for _, txn := range [][3]byte{{0, 0, 0}, {1, 0, 0}, {0, 0, 16}, {1, 0, 16}} {
				checkRead(t, "a put", append([]byte{2}, txn[0], txn[1], txn[2], byte(key), byte(value)))
			}
		}
	}
}

func TestReadOfEachFetch(t *testing.T) {
	places := [][]byte{
		{0, 0, 0, 0, 0, 0}, {1, 0, 0, 0, 0, 0}, {255, 255, 15, 0, 0, 0}, {0, 0, 16, 0, 0, 0}, {1, 0, 16, 0, 0, 0},
		{1, 0, 0, 1, 0, 0}, {1, 0, 0, 0, 1, 0}, {1, 0, 0, 0, 0, 1}, {255, 255, 255, 255, 255, 255},
	}
	for parts := range 256 {
		for _, from := range places {
			for _, to := range places {
				checkRead(t, "a fetch", slices.Concat([]byte{5, byte(parts)}, from, to))
			}
		}
	}
}

// Of each request's bytes: those in front, one byte more anywhere, one byte fewer anywhere, each byte as each other one.
func TestReadOfBytesNearARequest(t *testing.T) {
	for _, c := range rights() {
		b := plainBytes(c.r)
		for i := range b {
			checkReadIs(t, "the bytes in front of a request "+c.name, b[:i:i], api.Request{}, api.ErrCode)
			checkReadIs(t, "a request's front, the others in spare room, "+c.name, b[:i], api.Request{}, api.ErrCode)
			checkRead(t, "the end of a request "+c.name, b[i:])
			checkRead(t, "a byte fewer in a request "+c.name, slices.Delete(slices.Clone(b), i, i+1))
		}
		for n := range 256 {
			checkReadIs(t, "a byte behind a request "+c.name, append(b[:len(b):len(b)], byte(n)), api.Request{}, api.ErrCode)
			for i := range b {
				other := slices.Clone(b)
				other[i] = byte(n)
				checkRead(t, "a byte changed in a request "+c.name, other)
				checkRead(t, "a byte more in a request "+c.name, slices.Insert(slices.Clone(b), i, byte(n)))
			}
		}
	}
}

func TestReadOfRequestsPutTogether(t *testing.T) {
	draw := aid.Rolling(3)
	all := rights()
	for range 3000 {
		a, b := all[draw(len(all))], all[draw(len(all))]
		both := append(plainBytes(a.r), plainBytes(b.r)...)
		if r, e := request.Read(both); r != (api.Request{}) || e != api.ErrCode {
			t.Errorf("P8.2: Read of a request %s, and one %s, is %v, %v", a.name, b.name, r, e)
		}
	}
}
