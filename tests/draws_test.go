package tests

// draws returns a function that yields numbers from 0 to n-1. They look random,
// but are the same ones in every run, so that a failure can be repeated.
func draws(seed uint32) func(n int) int {
	return func(n int) int {
		seed = seed*1664525 + 1013904223
		return int(seed>>8) % n
	}
}
