// Package crc computes checksums (layer 1, doc/01-crc.md).
package crc

// polynomial is that of IEEE 802.3 with its bits reversed, because the lowest bit of a byte goes first.
const polynomial = 0xEDB88320

// Sum returns the checksum of a string.
func Sum(s string) uint32 {
	// The register begins with all ones, which is 0 inverted.
	return More(0, s)
}

// More returns the checksum of a string whose beginning has the checksum c, and whose rest is s.
func More(c uint32, s string) uint32 {
	register := ^c
	shift := func(b byte) {
		for i := range 8 {
			differs := (register^uint32(b>>i))&1 != 0
			register >>= 1
			if differs {
				register ^= polynomial
			}
		}
	}
	// By index: a range over the string would yield runes, not bytes.
	for i := range len(s) {
		shift(s[i])
	}
	return ^register
}
