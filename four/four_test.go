package four

import "testing"

func TestBytesAndNumber(t *testing.T) {
	for _, c := range []struct {
		n int
		s string
	}{
		{0, "\x00\x00\x00\x00"},
		{1, "\x00\x00\x00\x01"},
		{255, "\x00\x00\x00\xff"},
		{256, "\x00\x00\x01\x00"},
		{65536, "\x00\x01\x00\x00"},
		{16777216, "\x01\x00\x00\x00"},
		{16909060, "\x01\x02\x03\x04"},
		{2147483647, "\x7f\xff\xff\xff"},
	} {
		if got := Bytes(c.n); got != c.s {
			t.Errorf("Bytes(%d): %q, not %q", c.n, got, c.s)
		}
		if got := Number(c.s); got != c.n {
			t.Errorf("Number(%q): %d, not %d", c.s, got, c.n)
		}
	}
	if got := Number(""); got != 0 {
		t.Errorf("Number of no bytes: %d", got)
	}
}
