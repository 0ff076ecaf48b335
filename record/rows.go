package record

import (
	"flume/api"
	"flume/pack"
)

// How many bytes a number has.
const (
	wideBytes   = 3 // a place, an offset
	narrowBytes = 1
)

func within(n, low, high int) bool {
	return low <= n && n <= high
}

// each tells whether all of the row are as asked.
func each[T any](row []T, asked func(T) bool) bool {
	for _, t := range row {
		if !asked(t) {
			return false
		}
	}
	return true
}

// follow tells whether each of the row follows the one ahead of it as asked.
func follow[T any](row []T, asked func(ahead, t T) bool) bool {
	for i := 1; i < len(row); i++ {
		if !asked(row[i-1], row[i]) {
			return false
		}
	}
	return true
}

// row answers so many, each made by its place in the row.
func row[T any](many int, made func(i int) T) []T {
	var all []T
	for i := range many {
		all = append(all, made(i))
	}
	return all
}

// writer has the bytes that are written; its numbers have to fit.
type writer struct {
	b []byte
}

func (w *writer) wide(numbers ...int) {
	w.put(wideBytes, numbers)
}

func (w *writer) narrow(numbers ...int) {
	w.put(narrowBytes, numbers)
}

func (w *writer) put(width int, numbers []int) {
	for _, n := range numbers {
		b, _ := pack.Put(nil, n, width)
		w.b = append(w.b, b...)
	}
}

// reader has the bytes that are not read yet.
type reader struct {
	b []byte
}

func (r *reader) wide() int {
	return r.cut(wideBytes)
}

func (r *reader) narrow() int {
	return r.cut(narrowBytes)
}

// cut takes a number from the front. Where too few bytes stand, it is 0: whoever reads holds the whole against its bytes, which are more then.
func (r *reader) cut(width int) int {
	n, e := pack.Get(r.b, 0, width)
	if e != api.OK {
		r.b = nil
		return 0
	}
	r.b = r.b[width:]
	return n
}
