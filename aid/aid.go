// Package aid has what the tests of several packages need, and the program does not.
package aid

import "slices"

const room = 40 // marks behind a list

// Teller is told what is wrong: a test.
type Teller interface {
	Helper()
	Errorf(format string, args ...any)
}

// Roomy answers a copy of l, with marks in the room behind it.
func Roomy[T any](l []T, mark T) []T {
	all := append(slices.Clone(l), slices.Repeat([]T{mark}, room)...)
	return all[:len(l)]
}

// CheckRoom tells t, if l is not as want, or the room behind it not as Roomy left it.
func CheckRoom[T comparable](t Teller, what string, l, want []T, mark T) {
	t.Helper()
	if !slices.Equal(l, want) {
		t.Errorf("R4: %s changed what was handed in: %v is %v", what, want, l)
	}
	if behind := l[len(l):cap(l)]; !slices.Equal(behind[:room], slices.Repeat([]T{mark}, room)) {
		t.Errorf("R4: %s wrote into spare room: %v", what, behind[:room])
	}
}

// Fill puts mark in all of l, and in the room behind it.
func Fill[T any](l []T, mark T) {
	all := l[:cap(l)]
	for i := range all {
		all[i] = mark
	}
}

// Outside answers numbers that are not from low to high: just past both, far beyond, and such that fewer bits would make one of them.
func Outside(low, high int) []int {
	const far = 1 << 62
	return []int{low - 1, low - 2, high + 1, high + 2, -far, far, -far - far, far - 1 + far, low + 1<<32, high + 1<<24, low - 1<<32}
}

// Rolling answers a drawer of numbers from 0 on, below n: the same ones for the same seed.
func Rolling(seed int) func(n int) int {
	state := uint64(seed)
	return func(n int) int {
		state = state*6364136223846793005 + 1442695040888963407
		return int(state >> 33 % uint64(n))
	}
}
