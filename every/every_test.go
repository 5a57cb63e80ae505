package every

import "testing"

func even(n int) bool {
	return n%2 == 0
}

func TestIs(t *testing.T) {
	for _, c := range []struct {
		list []int
		want bool
	}{
		{nil, true},
		{[]int{}, true},
		{[]int{2}, true},
		{[]int{2, 4, 6}, true},
		{[]int{1}, false},
		{[]int{1, 2, 4}, false},
		{[]int{2, 1, 4}, false},
		{[]int{2, 4, 1}, false},
	} {
		if got := Is(c.list, even); got != c.want {
			t.Errorf("Is(%v, even): %v", c.list, got)
		}
	}
}
