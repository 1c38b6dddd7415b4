package tests

import (
	"fmt"
	"math"
	"testing"

	"loop.example/g01341/impl"
)

func small(a, b int) complex64 { return complex(float32(a), float32(b)) }

// Promise 2: products of small integers are exact.
func TestProductsOfSmallIntegersAreExact(t *testing.T) {
	for a := -6; a <= 6; a++ {
		for b := -6; b <= 6; b++ {
			x := small(a, b)
			if impl.PowerOf(x) != float32(a*a+b*b) || impl.ScaleComplex(x, 5) != small(5*a, 5*b) || impl.ConjugateOf(x) != small(a, -b) {
				t.Errorf("the power, five times or the conjugate of %v is not exact", x)
			}
			for c := -6; c <= 6; c++ {
				for d := -6; d <= 6; d++ {
					y := small(c, d)
					product := small(a*c-b*d, a*d+b*c)
					if impl.MulComplex(x, y) != product {
						t.Errorf("MulComplex of %v and %v: got %v", x, y, impl.MulComplex(x, y))
					}
					if y != 0 && impl.QuotientOf(product, y) != x {
						t.Errorf("QuotientOf of %v and %v: got %v", product, y, impl.QuotientOf(product, y))
					}
				}
			}
		}
	}
}

func TestProductsOfLargerIntegersAreRoundedOnce(t *testing.T) {
	for _, c := range []struct{ x, y, product complex64 }{
		{complex(4097, 4096), complex(4097, 4096), complex(8193, 33562624)},
		{complex(4095, 1), complex(4095, -1), complex(16769026, 0)},
		{complex(1e30, 1e30), complex(1e30, 1e30), complex(0, float32(math.Inf(1)))},
		{complex(16777215, 3), complex(16777215, 16777215), complex(num(0x577ffffb), num(0x57800000))},
		{complex(0x1p-100, 0x1p-100), complex(0x1p-100, 0), 0},
		{complex(0x1p-75, 0), complex(0x1p-74, 0x1p-75), complex(0x1p-149, 0)},
	} {
		expect(t, fmt.Sprint("MulComplex of ", c.x, c.y), impl.MulComplex(c.x, c.y), c.product)
	}
}

// Each sign of a zero follows from the products, which are added with their signs.
func TestSignsOfZerosInProducts(t *testing.T) {
	minus := num(1 << 31)
	for _, c := range []struct{ x, y, product complex64 }{
		{complex(-1, 0), complex(0, 0), complex(minus, 0)},
		{complex(minus, 0), complex(1, 0), complex(minus, 0)},
		{complex(minus, minus), complex(1, 1), complex(0, minus)},
		{complex(0, minus), complex(1, 0), complex(0, 0)},
		{complex(0, minus), complex(1, minus), complex(0, minus)},
		{complex(1, minus), complex(1, 0), complex(1, 0)},
		{complex(1, minus), complex(1, minus), complex(1, minus)},
	} {
		expect(t, fmt.Sprint("MulComplex of ", c.x, c.y), impl.MulComplex(c.x, c.y), c.product)
	}
	expect(t, "ConjugateOf 1", impl.ConjugateOf(1), complex(1, minus))
	expect(t, "ConjugateOf 1 - 0 i", impl.ConjugateOf(complex(1, minus)), complex64(1))
	expect(t, "ScaleComplex by -0", impl.ScaleComplex(complex(1, -2), minus), complex(minus, 0))
	expect(t, "QuotientOf 0 and -1", impl.QuotientOf(0, -1), complex(0, minus))
	expect(t, "QuotientOf 1 and 2", impl.QuotientOf(1, 2), complex64(0.5))
	expect(t, "QuotientOf 0 - 0 i and 1", impl.QuotientOf(complex(0, minus), 1), complex(0, minus))
	expect(t, "RootNumber of -0", impl.RootNumber(minus), minus)
	expect(t, "RootNumber of 0", impl.RootNumber(0), float32(0))
}

func TestScaleComplexRoundsBothParts(t *testing.T) {
	expect(t, "ScaleComplex by 0.1", impl.ScaleComplex(complex(3, -7), 0.1), complex(num(0x3e99999a), num(0xbf333333)))
	expect(t, "ScaleComplex to infinities", impl.ScaleComplex(complex(3e38, -3e38), 2), complex(num(0x7f800000), num(0xff800000)))
	expect(t, "ScaleComplex to subnormals", impl.ScaleComplex(complex(0x1p-126, -0x3p-126), 0x1p-24), complex(0, num(0x80000002)))
	expect(t, "ScaleComplex of a zero by an infinity", impl.ScaleComplex(1, num(0x7f800000)), complex(num(0x7f800000), num(0x7fc00000)))
}

func TestPowersAndLongs(t *testing.T) {
	for _, c := range []struct {
		x           complex64
		power, long uint32
	}{
		{0, 0, 0}, {complex(3, 4), 0x41c80000, 0x40a00000}, {complex(-3, -4), 0x41c80000, 0x40a00000}, {1, 0x3f800000, 0x3f800000},
		{complex(3e38, 4e37), 0x7f800000, 0x7f63b138}, {complex(1e-30, 1e-30), 0, 0x0de57822}, {complex(num(1), 0), 0, 1}, {complex(num(1), num(1)), 0, 1},
		{complex(3e38, 3e38), 0x7f800000, 0x7f800000}, {complex(4097, 4096), 0x4c000800, 0x45b50a9b},
		{complex(num(0xff800000), 1), 0x7f800000, 0x7f800000}, {complex(1, num(0x7fc00000)), 0x7fc00000, 0x7fc00000}, {complex(num(0x7f800000), num(0x7fc00000)), 0x7fc00000, 0x7fc00000},
	} {
		expect(t, fmt.Sprint("PowerOf ", c.x), impl.PowerOf(c.x), num(c.power))
		expect(t, fmt.Sprint("LongOf ", c.x), impl.LongOf(c.x), num(c.long))
	}
}

func TestQuotients(t *testing.T) {
	not := num(0x7fc00000)
	for _, c := range []struct{ x, y, quotient complex64 }{
		{complex(0, 4), 2, complex(0, 2)}, {complex(5, 5), complex(3, -1), complex(1, 2)}, {1, complex(0, 1), complex(0, -1)},
		{1, 3, complex(num(0x3eaaaaab), 0)},
		{complex(1, 1), complex(3, 7), complex(num(0x3e308d3e), num(0xbd8d3dcb))},
		{complex(1e-30, 0), complex(1e-30, 0), 1}, {complex(1e30, 1e30), complex(1e30, 1e30), 1},
		{complex(num(1), 0), complex(num(1), 0), 1}, {1, complex(num(1), 0), complex(num(0x7f800000), 0)},
		{1, 0, complex(not, not)}, {0, 0, complex(not, not)}, {complex(1, 1), complex(num(1<<31), num(1<<31)), complex(not, not)},
		{complex(num(0x7f800000), 1), 2, complex(num(0x7f800000), not)}, {1, complex(num(0x7f800000), 0), complex(not, not)}, {1, complex(not, 1), complex(not, not)},
	} {
		expect(t, fmt.Sprint("QuotientOf ", c.x, c.y), impl.QuotientOf(c.x, c.y), c.quotient)
	}
}

func TestRoots(t *testing.T) {
	for _, c := range [][2]uint32{
		{0x41100000, 0x40400000}, {0x40000000, 0x3fb504f3}, {0x3f800000, 0x3f800000}, {1, 0x1a3504f3}, {2, 0x1a800000}, {0x7fffff, 0x1fffffff},
		{0x7f7fffff, 0x5f7fffff}, {0x7f800000, 0x7f800000}, {0xbf800000, 0x7fc00000}, {0x80000001, 0x7fc00000}, {0xff800000, 0x7fc00000}, {0x7fc00000, 0x7fc00000},
	} {
		expect(t, fmt.Sprintf("RootNumber of the bits %x", c[0]), impl.RootNumber(num(c[0])), num(c[1]))
	}
	for n := float32(0); n <= 4096; n++ {
		if impl.RootNumber(n*n) != n {
			t.Errorf("RootNumber of the square of %v: got %v", n, impl.RootNumber(n*n))
		}
	}
}
