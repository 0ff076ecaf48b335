package request_test

import (
	"slices"
	"strconv"
	"testing"

	"flume/aid"
	"flume/api"
	"flume/request"
)

const (
	lastTxn  = 1048576
	lastKey  = 23
	greatest = 1048575 // of places
	lastKind = 9
)

// sizes has of each kind how many bytes it has.
var sizes = [lastKind + 1]int{
	api.RqBegin: 1, api.RqGet: 5, api.RqPut: 6, api.RqCommit: 4, api.RqAbort: 4,
	api.RqFetch: 14, api.RqPrune: 2, api.RqAdvance: 1, api.RqFree: 1, api.RqCheckpoint: 1,
}

// field is a field of requests as the chapter tells it: which kinds have it, what it may be, how many bytes it has.
type field struct {
	name      string
	of        func(r *api.Request) *int
	kinds     []int8
	low, high int
	width     int
}

func (f field) isOf(kind int8) bool {
	return slices.Contains(f.kinds, kind)
}

// fields answers all of them, in the chapter's order.
func fields() []field {
	ofOwn := []int8{api.RqGet, api.RqPut, api.RqCommit, api.RqAbort}
	ofKeys := []int8{api.RqGet, api.RqPut, api.RqPrune}
	ofFetch := []int8{api.RqFetch}
	return []field{
		{"Txn", func(r *api.Request) *int { return &r.Txn }, ofOwn, 1, lastTxn, 3},
		{"Key", func(r *api.Request) *int { return &r.Key }, ofKeys, 0, lastKey, 1},
		{"Value", func(r *api.Request) *int { return &r.Value }, []int8{api.RqPut}, 0, 255, 1},
		{"Parts", func(r *api.Request) *int { return &r.Parts }, ofFetch, 1, 7, 1},
		{"From", func(r *api.Request) *int { return &r.From }, ofFetch, 0, greatest, 6},
		{"To", func(r *api.Request) *int { return &r.To }, ofFetch, -1, greatest, 6},
	}
}

// plainMay tells whether the request may be, as the chapter tells it.
func plainMay(r api.Request) bool {
	may := r.Kind >= 0 && r.Kind <= lastKind
	for _, f := range fields() {
		n := *f.of(&r)
		if f.isOf(r.Kind) {
			may = may && f.low <= n && n <= f.high
		} else {
			may = may && n == 0
		}
	}
	return may
}

// plainBytes answers the request's bytes, as the chapter tells them; its numbers have to fit theirs.
func plainBytes(r api.Request) []byte {
	b := []byte{byte(r.Kind)}
	for _, f := range fields() {
		if f.isOf(r.Kind) {
			n := *f.of(&r)
			if f.name == "To" {
				n++
			}
			for range f.width {
				b = append(b, byte(n))
				n /= 256
			}
		}
	}
	return b
}

// plainRead answers what the chapter tells of the bytes.
func plainRead(b []byte) (api.Request, api.Errno) {
	if len(b) == 0 || b[0] > lastKind || len(b) != sizes[b[0]] {
		return api.Request{}, api.ErrCode
	}
	r := api.Request{Kind: int8(b[0])}
	at := 1
	for _, f := range fields() {
		if f.isOf(r.Kind) {
			n := 0
			for i := range f.width {
				n += int(b[at+i]) << (8 * i)
			}
			if f.name == "To" {
				n--
			}
			*f.of(&r) = n
			at += f.width
		}
	}
	if r.Key > lastKey {
		return api.Request{}, api.ErrKey
	}
	if !plainMay(r) {
		return api.Request{}, api.ErrCode
	}
	return r, api.OK
}

// samples answers a request of each kind.
func samples() []api.Request {
	return []api.Request{
		{Kind: api.RqBegin},
		{Kind: api.RqGet, Txn: 70000, Key: 9},
		{Kind: api.RqPut, Txn: 300, Key: 20, Value: 200},
		{Kind: api.RqCommit, Txn: 65536},
		{Kind: api.RqAbort, Txn: 256},
		{Kind: api.RqFetch, Parts: 5, From: 70000, To: 80000},
		{Kind: api.RqPrune, Key: 17},
		{Kind: api.RqAdvance},
		{Kind: api.RqFree},
		{Kind: api.RqCheckpoint},
	}
}

// named is a request, and what it is there for.
type named struct {
	name string
	r    api.Request
}

// with answers r with n in that field.
func with(r api.Request, f field, n int) named {
	*f.of(&r) = n
	return named{"of kind " + strconv.Itoa(int(r.Kind)) + " with " + f.name + " " + strconv.Itoa(n), r}
}

// rights answers requests that may be: of each kind, each field at its bounds and between, all at once at them.
func rights() []named {
	var all []named
	for _, r := range samples() {
		least, most := r, r
		for _, f := range fields() {
			if !f.isOf(r.Kind) {
				continue
			}
			for _, n := range []int{f.low, f.low + 1, (f.low + f.high) / 2, f.high - 1, f.high} {
				all = append(all, with(r, f, n))
			}
			*f.of(&least), *f.of(&most) = f.low, f.high
		}
		kind := "of kind " + strconv.Itoa(int(r.Kind))
		all = append(all, named{kind, r}, named{kind + ", the least", least}, named{kind + ", the greatest", most})
	}
	return all
}

// wrongs answers requests that may not be: each field not as told, each field that its kind has not, each kind that is none.
func wrongs() []named {
	var all []named
	for _, r := range samples() {
		for _, f := range fields() {
			not := []int{-1, 1, -2, 2, 7, 255, 256, greatest, -greatest, 1 << 32, 1 << 62, -1 << 63}
			if f.isOf(r.Kind) {
				not = aid.Outside(f.low, f.high)
			}
			for _, n := range not {
				all = append(all, with(r, f, n))
			}
		}
		for _, kind := range []int8{-128, -127, -10, -9, -2, -1, lastKind + 1, lastKind + 2, 16, 64, 127} {
			of := r
			of.Kind = kind
			all = append(all, named{"of kind " + strconv.Itoa(int(kind)), of})
		}
	}
	return all
}

func checkMay(t *testing.T, what string, r api.Request) {
	t.Helper()
	if got, want := request.May(r), plainMay(r); got != want {
		t.Errorf("P8.1: May of a request %s, %v, is %t", what, r, got)
	}
}

func checkBytes(t *testing.T, what string, r api.Request, want []byte) {
	t.Helper()
	if got, e := request.Bytes(r); e != api.OK || !slices.Equal(got, want) {
		t.Errorf("P8.1: Bytes of a request %s, %v, are %v, %v; asked are %v", what, r, got, e, want)
	}
}

func checkRefused(t *testing.T, what string, r api.Request) {
	t.Helper()
	if got, e := request.Bytes(r); e != api.ErrArg || len(got) != 0 {
		t.Errorf("P8.1: Bytes of a request %s, %v, are %v, %v; asked is ErrArg alone", what, r, got, e)
	}
}

// checkRead holds Read against the plain telling of the bytes.
func checkRead(t *testing.T, what string, b []byte) {
	t.Helper()
	r, e := plainRead(b)
	checkReadIs(t, what, b, r, e)
}

func checkReadIs(t *testing.T, what string, b []byte, want api.Request, wrong api.Errno) {
	t.Helper()
	if got, e := request.Read(b); e != wrong || got != want {
		t.Errorf("P8.2: Read of %s, %d bytes %v, is %v, %v; asked is %v, %v", what, len(b), b[:min(len(b), 20)], got, e, want, wrong)
	}
}
