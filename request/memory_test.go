package request_test

import (
	"bytes"
	"slices"
	"testing"

	"flume/aid"
	"flume/api"
	"flume/request"
)

const mark = 0xaa

// texts answers bytes of requests that may be, and bytes that are none.
func texts() [][]byte {
	all := [][]byte{nil, {}, {10}, {255, 1}, {1, 0, 0, 0, 24}, {6, 24}, {3, 0, 0, 0}}
	for _, c := range rights() {
		b := plainBytes(c.r)
		all = append(all, b, b[:len(b)-1], append(b[:len(b):len(b)], 0))
	}
	return all
}

func TestBytesHandedInStay(t *testing.T) {
	for _, want := range texts() {
		b := aid.Roomy(want, mark)
		request.Read(b)
		aid.CheckRoom(t, "Read", b, want, mark)
	}
}

func TestWhatIsReadLeansOnNothing(t *testing.T) {
	for _, c := range rights() {
		b := aid.Roomy(plainBytes(c.r), mark)
		r, _ := request.Read(b)
		aid.Fill(b, 0x55)
		if r != c.r {
			t.Errorf("R4: a request %s, that was read, follows its bytes: it is %v", c.name, r)
		}
	}
}

func TestBytesAreNewMemory(t *testing.T) {
	for _, c := range rights() {
		one, _ := request.Bytes(c.r)
		two, _ := request.Bytes(c.r)
		if aid.Fill(two, mark); !bytes.Equal(one, plainBytes(c.r)) {
			t.Errorf("R4: the bytes of a request %s share memory with those of another answer", c.name)
		}
		checkBytes(t, c.name+", behind a change of an answer", c.r, plainBytes(c.r))
	}
}

func TestTheSameIsAnsweredAnew(t *testing.T) {
	type answer struct {
		b string
		r api.Request
		e api.Errno
	}
	ask := func() []answer {
		var all []answer
		for _, c := range slices.Concat(rights(), wrongs()) {
			b, e := request.Bytes(c.r)
			all = append(all, answer{b: string(b), e: e})
		}
		for _, b := range texts() {
			r, e := request.Read(b)
			all = append(all, answer{r: r, e: e})
		}
		return all
	}
	first := ask()
	for range 3 {
		if !slices.Equal(ask(), first) {
			t.Error("R3: the same is answered otherwise behind other calls")
		}
	}
}
