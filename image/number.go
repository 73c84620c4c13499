package image

// A number's byte: seven bits, and whether another byte follows.
const (
	low7    = 0x7F
	follows = 0x80
)

// folded lays the numbers below 0 between the others, so that small ones of both kinds have few bits.
func folded(n int64) uint64 {
	if n < 0 {
		return ^(uint64(n) << 1)
	}
	return uint64(n) << 1
}

func unfolded(bits uint64) int64 {
	if bits&1 == 1 {
		return ^int64(bits >> 1)
	}
	return int64(bits >> 1)
}
