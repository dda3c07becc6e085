package net_test

// dice makes numbers by a fixed rule.
type dice uint32

func (d *dice) of(l ...int) int { return l[d.below(len(l))] }

func (d *dice) below(n int) int {
	*d = *d*1664525 + 1013904223
	return int(*d>>12) % n
}
