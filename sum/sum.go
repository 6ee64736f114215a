// Package sum: sums: see doc/02-sum.md.
package sum

const (
	turn     = 0x82F63B78 // what a register is xored with for a bit that is not alike
	topBit   = 1 << 31    // turn has it, so a register shows whether it was xored
	byteBits = 8
)

// Of answers the sum of a text.
func Of(s string) uint32 {
	return More(0, s)
}

// More answers the sum of a text whose sum is c with s behind it.
func More(c uint32, s string) uint32 {
	register := ^c
	for i := range len(s) {
		// A byte's bits meet the register's lowest eight, one after the other, so all of them may be held against it at once.
		register = eightZeros(register ^ uint32(s[i]))
	}
	return ^register
}

// Table answers at each place what becomes of a register with that number, if eight bits 0 come.
func Table() [256]uint32 {
	var table [256]uint32
	for i := range table {
		table[i] = eightZeros(uint32(i))
	}
	return table
}

// Less answers the sum of a text without its last byte b, whose sum is c.
func Less(c uint32, b byte) uint32 {
	return ^(withoutEightZeros(^c) ^ uint32(b))
}

// eightZeros answers what becomes of a register, if eight bits 0 come.
func eightZeros(register uint32) uint32 {
	for range byteBits {
		unlike := register % 2
		register /= 2
		if unlike == 1 {
			register ^= turn
		}
	}
	return register
}

// withoutEightZeros goes back from what eightZeros answers.
func withoutEightZeros(register uint32) uint32 {
	for range byteBits {
		if register < topBit {
			register *= 2
			continue
		}
		register = 2*(register^turn) + 1
	}
	return register
}
