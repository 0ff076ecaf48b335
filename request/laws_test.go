package request_test

import (
	"bytes"
	"testing"

	"flume/aid"
	"flume/api"
	"flume/request"
)

// checkRound holds Read against Bytes, both ways about.
func checkRound(t *testing.T, what string, r api.Request) {
	t.Helper()
	b, e := request.Bytes(r)
	if e != api.OK {
		t.Fatalf("P8.3: Bytes of a request %s, %v, is %v", what, r, e)
	}
	got, e := request.Read(b)
	if e != api.OK || got != r {
		t.Errorf("P8.3: Read of Bytes of %v is %v, %v", r, got, e)
	}
}

// checkText tells whether b is a request whose bytes they are; else it is ErrCode or ErrKey alone.
func checkText(t *testing.T, b []byte) bool {
	t.Helper()
	r, e := request.Read(b)
	if e != api.OK {
		if r != (api.Request{}) || e != api.ErrCode && e != api.ErrKey {
			t.Errorf("P8.3: Read of %v is %v, %v", b, r, e)
		}
		return false
	}
	if !request.May(r) {
		t.Errorf("P8.3: Read of %v is %v, which may not be", b, r)
	}
	if again, e := request.Bytes(r); e != api.OK || !bytes.Equal(again, b) {
		t.Errorf("P8.3: Bytes of Read of %v are %v, %v", b, again, e)
	}
	return true
}

func TestRoundOfRequests(t *testing.T) {
	for _, c := range rights() {
		checkRound(t, c.name, c.r)
		if !checkText(t, plainBytes(c.r)) {
			t.Errorf("P8.3: the bytes of a request %s are none", c.name)
		}
	}
}

// drawn answers a request that may be, of any kind.
func drawn(draw func(n int) int) api.Request {
	r := api.Request{Kind: int8(draw(lastKind + 1))}
	for _, f := range fields() {
		if f.isOf(r.Kind) {
			*f.of(&r) = f.low + draw(1+(f.high-f.low)>>draw(20))
		}
	}
	return r
}

func TestRoundOfDrawnRequests(t *testing.T) {
	draw := aid.Rolling(1)
	for range 30000 {
		r := drawn(draw)
		checkRound(t, "that was drawn", r)
		checkBytes(t, "that was drawn", r, plainBytes(r))
	}
}

func TestRoundOfDrawnTexts(t *testing.T) {
	draw := aid.Rolling(2)
	right := 0
	for range 100000 {
		b := make([]byte, 1+draw(15))
		for i := range b {
			b[i] = byte(draw(256) >> draw(8))
		}
		b[0] %= lastKind + 3
		checkRead(t, "drawn bytes", b)
		if checkText(t, b) {
			right++
		}
	}
	if right < 1000 || right > 99000 {
		t.Errorf("of the drawn texts %d are requests: too few or too many to tell much", right)
	}
}

func TestRoundOfBytesOfDrawnRequestsChanged(t *testing.T) {
	draw := aid.Rolling(4)
	for range 30000 {
		b := plainBytes(drawn(draw))
		for range 1 + draw(3) {
			b[draw(len(b))] ^= 1 << draw(8)
		}
		checkRead(t, "a drawn request's bytes with bits turned", b)
		checkText(t, b)
	}
}

// No two requests have the same bytes.
func TestUnlikeRequestsHaveUnlikeBytes(t *testing.T) {
	of := map[string]api.Request{}
	for _, c := range rights() {
		b, _ := request.Bytes(c.r)
		if r, ok := of[string(b)]; ok && r != c.r {
			t.Errorf("P8.3: %v and %v have the same bytes", r, c.r)
		}
		of[string(b)] = c.r
	}
}
