package place

import "testing"

func TestHome(t *testing.T) {
	for _, c := range []struct{ page, part, want int }{
		{0, 0, 202}, {0, 3, 205}, {1, 0, 206}, {7, 2, 232}, {47, 0, 390}, {47, 3, 393},
	} {
		if got := Home(c.page, c.part); got != c.want {
			t.Errorf("Home(%d, %d): %d, not %d", c.page, c.part, got, c.want)
		}
	}
	if HomeSeq != 1 {
		t.Errorf("HomeSeq: %d", HomeSeq)
	}
}
