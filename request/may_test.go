package request_test

import (
	"testing"

	"flume/api"
	"flume/request"
)

func TestMayOfRequestsThatMayBe(t *testing.T) {
	for _, c := range rights() {
		if !plainMay(c.r) {
			t.Fatalf("the request %s is told amiss", c.name)
		}
		checkMay(t, c.name, c.r)
	}
}

func TestMayOfRequestsThatMayNot(t *testing.T) {
	for _, c := range wrongs() {
		if plainMay(c.r) {
			t.Fatalf("the request %s is told amiss", c.name)
		}
		checkMay(t, c.name, c.r)
	}
}

func TestMayByHand(t *testing.T) {
	for _, c := range []struct {
		r    api.Request
		want bool
	}{
		{api.Request{}, true},
		{api.Request{Txn: 1}, false},
		{api.Request{To: -1}, false},
		{api.Request{Kind: api.RqGet, Txn: 1}, true},
		{api.Request{Kind: api.RqGet}, false},
		{api.Request{Kind: api.RqGet, Txn: 1, Key: 24}, false},
		{api.Request{Kind: api.RqPut, Txn: 1 << 20, Key: 23, Value: 255}, true},
		{api.Request{Kind: api.RqPut, Txn: 1<<20 + 1, Key: 23, Value: 255}, false},
		{api.Request{Kind: api.RqPut, Txn: 1, Value: 256}, false},
		{api.Request{Kind: api.RqCommit, Txn: 1, Key: 1}, false},
		{api.Request{Kind: api.RqFetch, Parts: 7, To: -1}, true},
		{api.Request{Kind: api.RqFetch, Parts: 1, From: 1<<20 - 1}, true},
		{api.Request{Kind: api.RqFetch, Parts: 8}, false},
		{api.Request{Kind: api.RqFetch}, false},
		{api.Request{Kind: api.RqFetch, Parts: 1, To: -2}, false},
		{api.Request{Kind: api.RqFetch, Parts: 1, To: 1 << 20}, false},
		{api.Request{Kind: api.RqFetch, Parts: 1, From: 1 << 20}, false},
		{api.Request{Kind: api.RqFetch, Txn: 1, Parts: 1}, false},
		{api.Request{Kind: api.RqPrune, Key: 23}, true},
		{api.Request{Kind: api.RqPrune, Txn: 1, Key: 23}, false},
		{api.Request{Kind: api.RqCheckpoint}, true},
		{api.Request{Kind: 10}, false},
		{api.Request{Kind: -1}, false},
	} {
		if got := request.May(c.r); got != c.want {
			t.Errorf("P8.1: May of %v is %t", c.r, got)
		}
	}
}

// Of each kind, and one to both sides, all requests of fields at the edges: what is wrong stands alone, or beside others.
func TestMayOfAllEdges(t *testing.T) {
	var r api.Request
	for r.Kind = -1; r.Kind <= lastKind+1; r.Kind++ {
		for _, r.Txn = range []int{-1, 0, 1, lastTxn, lastTxn + 1} {
			for _, r.Key = range []int{-1, 0, lastKey, lastKey + 1} {
				for _, r.Value = range []int{-1, 0, 255, 256} {
					checkFetchEdges(t, r)
				}
			}
		}
	}
}

func checkFetchEdges(t *testing.T, r api.Request) {
	t.Helper()
	for _, r.Parts = range []int{-1, 0, 1, 7, 8} {
		for _, r.From = range []int{-1, 0, greatest, greatest + 1} {
			for _, r.To = range []int{-2, -1, 0, greatest, greatest + 1} {
				checkMay(t, "of edges", r)
			}
		}
	}
}

func TestMayOfEachNumberOfAField(t *testing.T) {
	for _, r := range samples() {
		for _, f := range fields() {
			for n := -20; n < 300; n++ {
				checkMay(t, "of a small number", with(r, f, n).r)
			}
			for n := f.high - 20; n < f.high+20; n++ {
				checkMay(t, "of a great number", with(r, f, n).r)
			}
			for bit := range 64 {
				checkMay(t, "of a bit", with(r, f, 1<<bit).r)
				checkMay(t, "of a bit and 1", with(r, f, 1<<bit+1).r)
				checkMay(t, "of a bit less 1", with(r, f, 1<<bit-1).r)
				checkMay(t, "of a bit below 0", with(r, f, -1<<bit).r)
			}
		}
	}
}

func TestMayOfEachKind(t *testing.T) {
	for kind := -128; kind <= 127; kind++ {
		for _, r := range append(samples(), api.Request{}) {
			r.Kind = int8(kind)
			checkMay(t, "of another kind", r)
		}
	}
}

func TestSizeOfEachKind(t *testing.T) {
	for kind := -128; kind <= 127; kind++ {
		want := 0
		if kind >= 0 && kind <= lastKind {
			want = sizes[kind]
		}
		if got := request.Size(int8(kind)); got != want {
			t.Errorf("P8.1: Size(%d) is %d; asked is %d", kind, got, want)
		}
	}
}

func TestOwnOfEachKind(t *testing.T) {
	for kind := -128; kind <= 127; kind++ {
		want := kind >= 1 && kind <= 4
		if got := request.Own(int8(kind)); got != want {
			t.Errorf("P8.1: Own(%d) is %t", kind, got)
		}
	}
	for _, r := range samples() {
		if got := request.Own(r.Kind); got != (r.Txn > 0) {
			t.Errorf("P8.1: Own of a request that may be, %v, is %t", r, got)
		}
	}
}
