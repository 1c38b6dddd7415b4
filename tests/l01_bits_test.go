package tests

import (
	"fmt"
	"math"
	"testing"

	"loop.example/g01341/impl"
)

// Promise 2: numbers are told by their bits.
func TestNumbersAreToldByTheirBits(t *testing.T) {
	list := oddNumbers()
	for i, a := range list {
		for k, b := range list {
			bothNot := a != a && b != b
			want := bothNot || math.Float32bits(a) == math.Float32bits(b)
			if impl.SameNumber(a, b) != want {
				t.Errorf("SameNumber of %d and %d: want %v", i, k, want)
			}
			if (impl.BitsOf(a) == impl.BitsOf(b)) != want {
				t.Errorf("BitsOf %d and %d: equality is not %v", i, k, want)
			}
		}
	}
}

func TestBitsOfKnownNumbers(t *testing.T) {
	for _, c := range []struct {
		x    float32
		bits int64
	}{
		{0, 0}, {num(1 << 31), 2147483648}, {1, 1065353216}, {-2, 3221225472}, {num(1), 1}, {num(0x80000001), 2147483649},
		{math.MaxFloat32, 2139095039}, {float32(math.Inf(1)), 2139095040}, {float32(math.Inf(-1)), 4286578688},
		{num(0x7f800001), 2143289344}, {num(0x7fc00000), 2143289344}, {num(0xffffffff), 2143289344}, {num(0xffc00000), 2143289344},
	} {
		expect(t, fmt.Sprint("BitsOf ", c.x), impl.BitsOf(c.x), c.bits)
	}
}

func TestFromBitsLeadsBack(t *testing.T) {
	for bits := int64(0); bits <= 4294967295; bits += 65521 {
		x, ok := impl.FromBits(bits)
		if !ok || math.Float32bits(x) != uint32(bits) && x == x {
			t.Fatalf("FromBits of %d: got %v %v", bits, x, ok)
		}
		if x == x && impl.BitsOf(x) != bits {
			t.Fatalf("BitsOf FromBits of %d: got %d", bits, impl.BitsOf(x))
		}
	}
	for _, bits := range []int64{2143289344, 2139095041, 2147483647, 4286578689, 4294967295} {
		x, ok := impl.FromBits(bits)
		if !ok || x == x {
			t.Errorf("FromBits of %d: got %v %v, want a not-a-number", bits, x, ok)
		}
	}
	succeeds[float32](t, "FromBits of the least bits", 0)(impl.FromBits(0))
	for _, bits := range []int64{-1, 4294967296, 4294967296 + 1065353216, math.MaxInt64, math.MinInt64} {
		fails[float32](t, fmt.Sprint("FromBits of ", bits))(impl.FromBits(bits))
	}
}

func TestIsFinite(t *testing.T) {
	for _, x := range oddNumbers() {
		want := math.Float32bits(x)&0x7f800000 != 0x7f800000
		expect(t, fmt.Sprint("IsFinite of ", x), impl.IsFinite(x), want)
		expect(t, fmt.Sprint("IsFiniteComplex of the real part ", x), impl.IsFiniteComplex(complex(x, 1)), want)
		expect(t, fmt.Sprint("IsFiniteComplex of the imaginary part ", x), impl.IsFiniteComplex(complex(1, x)), want)
	}
}

// Promise 2: complex numbers are told by the bits of both parts.
func TestComplexNumbersAreToldByTheirBits(t *testing.T) {
	list := oddNumbers()
	for _, a := range list {
		for _, b := range list {
			want := impl.SameNumber(a, b)
			for _, c := range []float32{0, num(1 << 31), 1, num(0x7fc00000)} {
				if impl.SameComplex(complex(a, c), complex(b, c)) != want || impl.SameComplex(complex(c, a), complex(c, b)) != want {
					t.Errorf("SameComplex with %v and %v beside %v: want %v", a, b, c, want)
				}
			}
			if impl.SameComplex(complex(a, 1), complex(b, 2)) || impl.SameComplex(complex(1, a), complex(2, b)) {
				t.Errorf("SameComplex overlooks a part beside %v and %v", a, b)
			}
		}
	}
}

func TestNarrowing(t *testing.T) {
	for _, c := range []struct {
		x    float64
		bits uint32
	}{
		{0, 0}, {math.Copysign(0, -1), 0x80000000}, {0.5, 0x3f000000}, {0.1, 0x3dcccccd}, {-0.1, 0xbdcccccd},
		{1 + 0x1p-24, 0x3f800000}, {1 + 0x1p-24 + 0x1p-50, 0x3f800001}, {1 + 0x3p-24, 0x3f800002}, {-1 - 0x3p-24, 0xbf800002},
		{0x1p-149, 1}, {0x1p-150, 0}, {0x1.0000000001p-150, 1}, {0x3p-150, 2}, {-0x1p-150, 0x80000000}, {-0x1p-200, 0x80000000}, {5e-324, 0},
		{0x1p-126, 0x800000}, {0x1p-126 - 0x1p-150, 0x800000}, {0x1p-126 - 0x1p-149, 0x7fffff},
		{math.MaxFloat32, 0x7f7fffff}, {0x1.fffffefffffffp127, 0x7f7fffff}, {0x1.ffffffp127, 0x7f800000}, {-0x1.ffffffp127, 0xff800000},
		{1e300, 0x7f800000}, {math.Inf(1), 0x7f800000}, {math.Inf(-1), 0xff800000}, {math.NaN(), 0x7fc00000},
	} {
		expect(t, fmt.Sprint("NarrowNumber of ", c.x), impl.NarrowNumber(c.x), num(c.bits))
		expect(t, fmt.Sprint("NarrowComplex of the real part ", c.x), impl.NarrowComplex(complex(c.x, 2)), complex(num(c.bits), 2))
		expect(t, fmt.Sprint("NarrowComplex of the imaginary part ", c.x), impl.NarrowComplex(complex(2, c.x)), complex(2, num(c.bits)))
	}
}

func TestSubnormalNumbers(t *testing.T) {
	for _, sign := range []uint32{0, 1 << 31} {
		for _, bits := range []uint32{1, 2, 0x1234, 0x400000, 0x7fffff} {
			expect(t, fmt.Sprintf("IsSubnormal of the bits %x", bits|sign), impl.IsSubnormal(num(bits|sign)), true)
			expect(t, fmt.Sprintf("FlushNumber of the bits %x", bits|sign), impl.FlushNumber(num(bits|sign)), num(sign))
		}
		for _, bits := range []uint32{0, 0x800000, 0x800001, 0x3f800000, 0x7f7fffff, 0x7f800000, 0x7fc00000, 0x7f800001} {
			expect(t, fmt.Sprintf("IsSubnormal of the bits %x", bits|sign), impl.IsSubnormal(num(bits|sign)), false)
			expect(t, fmt.Sprintf("FlushNumber of the bits %x", bits|sign), impl.FlushNumber(num(bits|sign)), num(bits|sign))
		}
	}
}
