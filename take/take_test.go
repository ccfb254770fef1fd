package take_test

import (
	"testing"

	"barbican/take"
)

// TestBytes: what is taken, and the first fault, which stays.
func TestBytes(t *testing.T) {
	b := []byte{1, 0x34, 0x12, 0x78, 0x56, 0x34, 0xF2, 1, 2, 'a', 'b', 9, 7}
	x := take.Of(b)
	if x.Byte() != 1 || x.Short() != 0x1234 || x.Number() != 0xF2345678 || !x.Flag() || x.Text() != "ab" || x.Bad() || x.Left() != 2 || x.Rest()[0] != 9 {
		t.Error("taken")
	}
	if n := x.Next(0); len(n) != 0 || x.Bad() {
		t.Error("nothing")
	}
	if n := x.Next(3); string(n) != "\x00\x00\x00" || !x.Bad() || x.Byte() != 0 || x.Text() != "" || x.Flag() || x.Left() != 2 {
		t.Error("too much")
	}
	y := take.Of([]byte{2, 5})
	if y.Flag() || !y.Bad() || y.Byte() != 0 {
		t.Error("a flag that is none")
	}
	z := take.Of([]byte{2, 5})
	z.Demand(true)
	if z.Bad() || z.Byte() != 2 {
		t.Error("what is right")
	}
	z.Demand(false)
	if !z.Bad() || z.Byte() != 0 || z.Next(1)[0] != 0 {
		t.Error("what isn't")
	}
}
