// Package fix: see ../../shared/doc/01-fix.md.
package fix

// Two numbers within sumMost, put together, are far from the end of 64 bits.
const sumMost = 1 << 40

// Two numbers within factorMost, one times the other, are far from the end of 64 bits.
const factorMost = 1 << 28

// Within is a number brought to the nearest one from -most to most.
func Within(n, most int) int { return min(max(n, -most), most) }

// Add is two numbers together, each brought to within most, and what comes of it too;
// of most above 2^40 as of that.
func Add(a, b, most int) int {
	most = min(most, sumMost)
	return Within(Within(a, most)+Within(b, most), most)
}

// Part is n times a by b, each brought to within 2^28, without what is left: towards 0; 0, if b is 0.
func Part(n, a, b int) int {
	if b == 0 {
		return 0
	}
	// Go's division leaves out what is left towards 0, as is asked for.
	return Within(n, factorMost) * Within(a, factorMost) / Within(b, factorMost)
}
