package arith

// interval is a range of the coder; both ends belong to it.
type interval struct {
	low, high int
}

func (r interval) wide() bool {
	return r.low >= 0 && r.low < half && r.high >= half && r.high < whole &&
		(r.low < quarter || r.high >= whole-quarter)
}

// split returns the last number of the part that stands for a one.
func (r interval) split(p int) int {
	return r.low + (r.high-r.low+1)*p/certain - 1
}

func (r interval) part(bit, p int) interval {
	split := r.split(p)
	if bit == 1 {
		return interval{r.low, split}
	}
	return interval{split + 1, r.high}
}

// offset returns what the next doubling subtracts, and whether there is one.
func (r interval) offset() (int, bool) {
	switch {
	case r.high < half:
		return 0, true
	case r.low >= half:
		return half, true
	case r.low >= quarter && r.high < whole-quarter:
		return quarter, true
	}
	return 0, false
}

func (r interval) doubled(offset int) interval {
	return interval{2 * (r.low - offset), 2*(r.high-offset) + 1}
}
