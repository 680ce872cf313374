package octet

import "testing"

// Who ranges over a number's bytes may leave at each of them.
func TestBytesOfMayBeLeft(t *testing.T) {
	for many := 1; many <= 4; many++ {
		var told []byte
		for b := range bytesOf(4, 0x01020304) {
			told = append(told, b)
			if len(told) == many {
				break
			}
		}
		if want := "\x01\x02\x03\x04"[:many]; string(told) != want {
			t.Errorf("told % x, want % x", told, want)
		}
	}
}
