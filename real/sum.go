package real

import "math"

// Sum adds numbers up, and what is lost on the way (P2.4).
func Sum(xs ...float64) float64 {
	s, c := 0.0, 0.0
	for _, x := range xs {
		t := s + x
		// Of the two the greater one kept its digits, so what t lacks is the smaller one's.
		if math.Abs(s) >= math.Abs(x) {
			c += (s - t) + x
		} else {
			c += (x - t) + s
		}
		s = t
	}
	return s + c
}

// Mean is the sum's share (P2.4).
func Mean(xs ...float64) float64 {
	if len(xs) == 0 {
		return math.NaN()
	}
	return Sum(xs...) / float64(len(xs))
}

// Length is how long a way is (P2.5).
func Length(dx, dy int64) float64 {
	a, b := float64(dx), float64(dy)
	// Without the conversions a product and the sum might be joined and rounded once.
	return math.Sqrt(float64(a*a) + float64(b*b))
}
