package disk

// polynomial of CRC-32, turned around: its lowest bit is the highest power.
const polynomial = 0xEDB88320

// Sum of a text.
func Sum(s string) uint32 {
	sum := ^uint32(0)
	for i := range len(s) {
		sum = divide(sum ^ uint32(s[i]))
	}
	return ^sum
}

// divide takes the eight lowest bits out of a sum. It goes bit by bit: a table
// of 256 words would be faster, but the texts here are short.
func divide(sum uint32) uint32 {
	for range 8 {
		low := sum & 1
		sum >>= 1
		if low == 1 {
			sum ^= polynomial
		}
	}
	return sum
}
