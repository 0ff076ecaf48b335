package request

import "flume/api"

const (
	lastTxn  = 1 << 20
	allParts = 1<<api.Parts - 1

	kindBytes   = 1
	txnBytes    = 3
	narrowBytes = 1
	placeBytes  = 6
)

// field tells of one of a request's numbers what it may be, and how it stands in bytes.
type field struct {
	low, high int
	width     int
	raised    int // by how much: bytes have no numbers below 0
}

func (f field) fits(n int) bool {
	return f.low <= n && n <= f.high
}

// reader reads the fields of a request: each is then what take answers of it.
type reader struct {
	of   api.Request
	take func(n int, f field) int
}

func (r *reader) txn() {
	r.of.Txn = r.take(r.of.Txn, field{low: 1, high: lastTxn, width: txnBytes})
}

func (r *reader) key() {
	r.of.Key = r.take(r.of.Key, field{high: api.Keys - 1, width: narrowBytes})
}

func (r *reader) value() {
	r.of.Value = r.take(r.of.Value, field{high: api.MaxValue, width: narrowBytes})
}

func (r *reader) parts() {
	r.of.Parts = r.take(r.of.Parts, field{low: 1, high: allParts, width: narrowBytes})
}

func (r *reader) from() {
	r.of.From = r.take(r.of.From, field{high: api.MaxPlace, width: placeBytes})
}

func (r *reader) to() {
	r.of.To = r.take(r.of.To, field{low: -1, high: api.MaxPlace, width: placeBytes, raised: 1})
}

// rows answers of each kind what reads the fields that it has, in their order.
func (r *reader) rows() map[int8][]func() {
	return map[int8][]func(){
		api.RqBegin:      {},
		api.RqGet:        {r.txn, r.key},
		api.RqPut:        {r.txn, r.key, r.value},
		api.RqCommit:     {r.txn},
		api.RqAbort:      {r.txn},
		api.RqFetch:      {r.parts, r.from, r.to},
		api.RqPrune:      {r.key},
		api.RqAdvance:    {},
		api.RqFree:       {},
		api.RqCheckpoint: {},
	}
}

// each hands take the fields that a request of that kind has, in their order; false, if there is no such kind.
func each(of api.Request, take func(n int, f field) int) (api.Request, bool) {
	r := &reader{of, take}
	row, ok := r.rows()[of.Kind]
	for _, read := range row {
		read()
	}
	return r.of, ok
}
