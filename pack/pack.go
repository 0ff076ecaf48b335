// Package pack has numbers in bytes, and handles and words in numbers.
package pack

import "flume/api"

const (
	byteBits   = 8
	widest     = 6  // bytes of a number
	slotBits   = 8  // of a handle, the lowest
	handleBits = 20 // of a word, the lowest

	slotMask       = 1<<slotBits - 1
	handleMask     = 1<<handleBits - 1
	leastHandle    = 1 << slotBits
	greatestHandle = api.MaxGen<<slotBits | slotMask
	greatestWord   = api.MaxPlace<<handleBits | greatestHandle
)

// Put answers b with the number n behind it, in w bytes.
func Put(b []byte, n, w int) ([]byte, api.Errno) {
	if !Fits(n, w) {
		return nil, api.ErrArg
	}
	all := b[:len(b):len(b)] // no spare room: append has to take new memory
	for range w {
		all = append(all, byte(n))
		n >>= byteBits
	}
	return all, api.OK
}

// Get answers the number whose w bytes stand in b from at on.
func Get(b []byte, at, w int) (int, api.Errno) {
	if !isWidth(w) {
		return 0, api.ErrArg
	}
	if at < 0 || at > len(b)-w { // at+w could wrap round
		return 0, api.ErrCode
	}
	n := 0
	for i, c := range b[at : at+w : at+w] {
		n |= int(c) << (byteBits * i)
	}
	return n, api.OK
}

// Fits tells whether n is a number of w bytes.
func Fits(n, w int) bool {
	return isWidth(w) && n >= 0 && n>>(byteBits*w) == 0
}

func isWidth(w int) bool {
	return w >= 1 && w <= widest
}

// Handle answers the handle of a slot in a generation.
func Handle(gen, slot int) (int, api.Errno) {
	if gen < 1 || gen > api.MaxGen || slot < 0 || slot > slotMask {
		return 0, api.ErrArg
	}
	return gen<<slotBits | slot, api.OK
}

// Word answers the word of a place and a handle.
func Word(place, handle int) (int, api.Errno) {
	if place < 0 || place > api.MaxPlace || !goesWith(handle, place) {
		return 0, api.ErrArg
	}
	return place<<handleBits | handle, api.OK
}

// goesWith tells whether the handle may stand in a word of that place: none stands in place 0 only.
func goesWith(handle, place int) bool {
	if handle == 0 {
		return place == 0
	}
	return handle >= leastHandle && handle <= greatestHandle
}

// Place answers the word's place.
func Place(word int) int {
	return inRange(word) >> handleBits
}

// Slot answers the slot of the word's handle; of a handle alone, too.
func Slot(word int) int {
	return inRange(word) & slotMask
}

// Gen answers the generation of the word's handle; of a handle alone, too.
func Gen(word int) int {
	return Bare(word) >> slotBits
}

// Bare answers the word's handle.
func Bare(word int) int {
	return inRange(word) & handleMask
}

// inRange answers n, or 0 where n is beyond all words: so each part of such a number is 0.
func inRange(n int) int {
	if n < 0 || n > greatestWord {
		return 0
	}
	return n
}
