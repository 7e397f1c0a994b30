package wire

const turned = 2197175160 // CRC-32C's bits, the lowest first

// Crc is the CRC-32C of b.
func Crc(b []byte) uint32 {
	table := makeTable()
	sum := ^uint32(0)
	for _, x := range b {
		sum ^= uint32(x)
		sum = sum>>4 ^ table[sum&15]
		sum = sum>>4 ^ table[sum&15]
	}
	return ^sum
}

// makeTable has what four bits do to the sum. Each call of Crc makes it anew, so it is small: most of what is summed is short.
func makeTable() [16]uint32 {
	var table [16]uint32
	for i := range table {
		table[i] = fourBits(uint32(i))
	}
	return table
}

func fourBits(sum uint32) uint32 {
	for range 4 {
		if sum&1 == 1 {
			sum = sum>>1 ^ turned
		} else {
			sum >>= 1
		}
	}
	return sum
}
