package every

import (
	"slices"
	"testing"
)

func even(n int) bool {
	return n%2 == 0
}

func TestIs(t *testing.T) {
	for _, c := range []struct {
		list []int
		want bool
	}{
		{nil, true},
		{[]int{}, true},
		{[]int{2}, true},
		{[]int{2, 4, 6}, true},
		{[]int{1}, false},
		{[]int{1, 2, 4}, false},
		{[]int{2, 1, 4}, false},
		{[]int{2, 4, 1}, false},
	} {
		if got := Is(c.list, even); got != c.want {
			t.Errorf("Is(%v, even): %v", c.list, got)
		}
	}
}

func TestMade(t *testing.T) {
	for _, c := range []struct {
		list []int
		want []bool
	}{
		{nil, nil},
		{[]int{2}, []bool{true}},
		{[]int{1, 2, 4, 5}, []bool{false, true, true, false}},
	} {
		if got := Made(c.list, even); !slices.Equal(got, c.want) {
			t.Errorf("Made(%v, even): %v, not %v", c.list, got, c.want)
		}
	}
	list := []int{1, 2}
	Made(list, func(n int) int { return n })[0] = 9
	if list[0] != 1 {
		t.Errorf("Made told the list that it was given")
	}
}
