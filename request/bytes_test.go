package request_test

import (
	"testing"

	"flume/api"
	"flume/request"
)

// byHand answers requests, and their bytes.
func byHand() []struct {
	r api.Request
	b []byte
} {
	return []struct {
		r api.Request
		b []byte
	}{
		{api.Request{Kind: api.RqPut, Txn: 1, Key: 3, Value: 7}, []byte{2, 1, 0, 0, 3, 7}},
		{api.Request{}, []byte{0}},
		{api.Request{Kind: api.RqBegin}, []byte{0}},
		{api.Request{Kind: api.RqGet, Txn: 0x0a0b0c, Key: 9}, []byte{1, 12, 11, 10, 9}},
		{api.Request{Kind: api.RqGet, Txn: 1}, []byte{1, 1, 0, 0, 0}},
		{api.Request{Kind: api.RqPut, Txn: 1 << 20, Key: 23, Value: 255}, []byte{2, 0, 0, 16, 23, 255}},
		{api.Request{Kind: api.RqCommit, Txn: 256}, []byte{3, 0, 1, 0}},
		{api.Request{Kind: api.RqCommit, Txn: 1 << 20}, []byte{3, 0, 0, 16}},
		{api.Request{Kind: api.RqAbort, Txn: 65535}, []byte{4, 255, 255, 0}},
		{api.Request{Kind: api.RqFetch, Parts: 7, From: 0x0a0b0c, To: -1}, []byte{5, 7, 12, 11, 10, 0, 0, 0, 0, 0, 0, 0, 0, 0}},
		{api.Request{Kind: api.RqFetch, Parts: 1}, []byte{5, 1, 0, 0, 0, 0, 0, 0, 1, 0, 0, 0, 0, 0}},
		{api.Request{Kind: api.RqFetch, Parts: 2, From: 1, To: 255}, []byte{5, 2, 1, 0, 0, 0, 0, 0, 0, 1, 0, 0, 0, 0}},
		{api.Request{Kind: api.RqFetch, Parts: 4, From: 1<<20 - 1, To: 1<<20 - 1}, []byte{5, 4, 255, 255, 15, 0, 0, 0, 0, 0, 16, 0, 0, 0}},
		{api.Request{Kind: api.RqPrune}, []byte{6, 0}},
		{api.Request{Kind: api.RqPrune, Key: 23}, []byte{6, 23}},
		{api.Request{Kind: api.RqAdvance}, []byte{7}},
		{api.Request{Kind: api.RqFree}, []byte{8}},
		{api.Request{Kind: api.RqCheckpoint}, []byte{9}},
	}
}

func TestBytesByHand(t *testing.T) {
	for _, c := range byHand() {
		checkBytes(t, "by hand", c.r, c.b)
	}
}

func TestBytesOfRequestsThatMayBe(t *testing.T) {
	for _, c := range rights() {
		checkBytes(t, c.name, c.r, plainBytes(c.r))
	}
}

func TestBytesOfRequestsThatMayNot(t *testing.T) {
	for _, c := range wrongs() {
		checkRefused(t, c.name, c.r)
	}
}

func TestBytesAreAsManyAsSizeTells(t *testing.T) {
	for _, c := range rights() {
		b, e := request.Bytes(c.r)
		if e != api.OK || len(b) != request.Size(c.r.Kind) || len(b) != sizes[c.r.Kind] {
			t.Errorf("P8.1: Bytes of a request %s are %d, %v; Size is %d", c.name, len(b), e, request.Size(c.r.Kind))
		}
	}
}

func TestBytesOfEachPut(t *testing.T) {
	for key := range lastKey + 1 {
		for value := range 256 {
			r := api.Request{Kind: api.RqPut, Txn: 9, Key: key, Value: value}
			checkBytes(t, "that puts", r, []byte{2, 9, 0, 0, byte(key), byte(value)})
		}
	}
}

func TestBytesOfManyTxns(t *testing.T) {
	for txn := 1; txn <= lastTxn; txn += 1 + txn/50 {
		checkBytes(t, "of a transaction", api.Request{Kind: api.RqAbort, Txn: txn}, []byte{4, byte(txn), byte(txn >> 8), byte(txn >> 16)})
	}
}

func TestBytesOfManyPlaces(t *testing.T) {
	for from := 0; from <= greatest; from += 1 + from/20 {
		for to := -1; to <= greatest; to += 2 + to/5 {
			r := api.Request{Kind: api.RqFetch, Parts: 1 + from%7, From: from, To: to}
			checkBytes(t, "that fetches", r, plainBytes(r))
		}
	}
}
