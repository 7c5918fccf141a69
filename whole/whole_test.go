package whole_test

import (
	"math"
	"slices"
	"testing"

	"astragal/api"
	"astragal/whole"
)

// R5: what is outside of what is allowed, for any integers.
func TestOutside(t *testing.T) {
	for n, want := range map[int]bool{math.MinInt: true, 1: true, 2: false, 3: false, 4: false, 5: true, math.MaxInt: true} {
		if whole.Outside(2, 4)(n) != want {
			t.Error(n, !want)
		}
	}
	if !whole.Outside(4, 2)(3) || whole.Outside(3, 3)(3) {
		t.Error("nothing, and a single number")
	}
}

// R5: divisors of any numbers, and lists in lowest terms.
func TestLowest(t *testing.T) {
	for _, c := range []struct {
		numbers []int
		by      int
	}{{nil, 0}, {[]int{0, 0}, 0}, {[]int{7}, 7}, {[]int{0, 6}, 6}, {[]int{12, 18}, 6}, {[]int{12, 18, 4}, 2}, {[]int{5, 7}, 1}, {[]int{api.MaxNumber, 64}, 64}} {
		if by := whole.Divisor(c.numbers...); by != c.by {
			t.Error(c, by)
		}
	}
	numbers := []int{12, 0, 18}
	if l := whole.Lowest(numbers); !slices.Equal(l, []int{2, 0, 3}) || !slices.Equal(numbers, []int{12, 0, 18}) {
		t.Error(l, numbers)
	}
	if l := whole.Lowest([]int{2, 3}); !slices.Equal(l, []int{2, 3}) {
		t.Error(l)
	}
}

// R5: what would be too great is refused, with the error that is asked for.
func TestProduct(t *testing.T) {
	for _, c := range []struct {
		a, b, product, multiple int
		e, f                    api.Errno
	}{
		{2, 3, 6, 6, api.OK, api.OK}, {4, 6, 24, 12, api.OK, api.OK}, {1, api.MaxNumber, api.MaxNumber, api.MaxNumber, api.OK, api.OK},
		{api.MaxNumber, 2, 0, api.MaxNumber, api.ErrFull, api.OK}, {api.MaxNumber, api.MaxNumber, 0, api.MaxNumber, api.ErrFull, api.OK},
		{api.MaxNumber, 3, 0, 0, api.ErrFull, api.ErrFull}, {3, api.MaxNumber/3 + 1, 0, 0, api.ErrFull, api.ErrFull}, {3, api.MaxNumber / 3, 999999999999999, 333333333333333, api.OK, api.OK},
		{api.MaxNumber, api.MaxNumber - 1, 0, 0, api.ErrFull, api.ErrFull},
	} {
		p, e := whole.Product(c.a, c.b, api.ErrFull)
		m, f := whole.Multiple(c.a, c.b, api.ErrFull)
		if p != c.product || e != c.e || m != c.multiple || f != c.f {
			t.Error(c, p, e, m, f)
		}
	}
	if p, e := whole.Product(api.MaxNumber, 2, api.ErrOver); p != 0 || e != api.ErrOver {
		t.Error(p, e)
	}
}
