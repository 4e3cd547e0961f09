package fdec_test

import (
	"testing"

	"glossator/api"
	"glossator/fdec"
)

// checkBack asks for the same float from its decimal and from its text.
func checkBack(t *testing.T, bits uint64) {
	t.Helper()
	d, e, errno := fdec.Shortest(bits)
	if errno != api.OK {
		t.Fatalf("Shortest(%016X): %v", bits, errno)
	}
	checkRound(t, bits&signBit != 0, d, e, bits, api.OK)
	s, errno := fdec.Text(bits)
	if errno != api.OK {
		t.Fatalf("Text(%016X): %v", bits, errno)
	}
	checkScan(t, s, bits, api.OK)
}

func TestThereAndBack(t *testing.T) {
	all := append(amounts(51), simple(52, 20000)...)
	for bits := range uint64(1000) {
		all = append(all, bits)
	}
	for _, bits := range all {
		checkBack(t, bits)
		checkBack(t, signBit|bits)
	}
	c := chance(53)
	for range 50000 {
		if bits := c.word(); bits&infinite != infinite {
			checkBack(t, bits)
		}
	}
}
