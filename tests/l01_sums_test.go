package tests

import (
	"testing"

	"loop.example/g01341/impl"
)

func TestSumsGoFromLeftToRight(t *testing.T) {
	succeeds[float32](t, "SumNumbers of none", 0)(impl.SumNumbers(nil))
	succeeds[float32](t, "SumNumbers of -0", 0)(impl.SumNumbers([]float32{num(1 << 31)}))
	succeeds[float32](t, "SumNumbers of three", 6.5)(impl.SumNumbers([]float32{1, 2, 3.5}))
	succeeds[float32](t, "SumNumbers of a large one first", 16777216)(impl.SumNumbers([]float32{16777216, 1, 1}))
	succeeds[float32](t, "SumNumbers of a large one last", 16777218)(impl.SumNumbers([]float32{1, 1, 16777216}))
	succeeds[float32](t, "SumNumbers that cancel", 0)(impl.SumNumbers([]float32{1, 1e20, -1e20}))
	succeeds(t, "SumNumbers of infinities", num(0x7fc00000))(impl.SumNumbers([]float32{num(0x7f800000), num(0xff800000)}))
	succeeds(t, "SumNumbers beyond the limit", num(0x7f800000))(impl.SumNumbers([]float32{3e38, 3e38, -3e38}))
	succeeds(t, "SumNumbers of subnormals", num(3))(impl.SumNumbers([]float32{num(1), num(2)}))
}

func TestDotsRoundEachProduct(t *testing.T) {
	succeeds[float32](t, "DotNumbers of none", 0)(impl.DotNumbers(nil, []float32{}))
	succeeds[float32](t, "DotNumbers of two", 11)(impl.DotNumbers([]float32{1, 2}, []float32{3, 4}))
	succeeds[float32](t, "DotNumbers of -0", 0)(impl.DotNumbers([]float32{num(1 << 31)}, []float32{1}))
	// A fused product would leave the 1 that rounding takes away.
	succeeds[float32](t, "DotNumbers of two that cancel", 0)(impl.DotNumbers([]float32{-16785408, 4097}, []float32{1, 4097}))
	succeeds(t, "DotNumbers of products beyond the limit", num(0x7fc00000))(impl.DotNumbers([]float32{1e30, -1e30}, []float32{1e30, 1e30}))
	succeeds[float32](t, "DotNumbers of a large one first", 16777216)(impl.DotNumbers([]float32{4096, 1, 1}, []float32{4096, 1, 1}))
	fails[float32](t, "DotNumbers of one and none")(impl.DotNumbers([]float32{1}, nil))
	fails[float32](t, "DotNumbers of one and two")(impl.DotNumbers([]float32{1}, []float32{1, 2}))
}

func TestSumsOfComplexNumbers(t *testing.T) {
	minus := num(1 << 31)
	i := complex64(complex(0, 1))
	succeeds[complex64](t, "SumComplex of none", 0)(impl.SumComplex(nil))
	succeeds[complex64](t, "SumComplex of -0 - 0 i", 0)(impl.SumComplex([]complex64{complex(minus, minus)}))
	succeeds(t, "SumComplex of two", complex64(complex(3, 3)))(impl.SumComplex([]complex64{1, complex(2, 3)}))
	succeeds(t, "SumComplex of large ones first", complex64(complex(16777216, 16777218)))(impl.SumComplex([]complex64{complex(16777216, 1), complex(1, 1), complex(1, 16777216)}))
	succeeds[complex64](t, "DotComplex of none", 0)(impl.DotComplex(nil, nil))
	succeeds[complex64](t, "DotComplex of i and i", -1)(impl.DotComplex([]complex64{i}, []complex64{i}))
	succeeds(t, "DotComplex of two", complex64(complex(9, 14)))(impl.DotComplex([]complex64{complex(1, 2), 2}, []complex64{complex(3, 4), complex(7, 2)}))
	succeeds(t, "DotConjugate of i and 1", complex64(complex(0, -1)))(impl.DotConjugate([]complex64{i}, []complex64{1}))
	succeeds(t, "DotConjugate of 1 and i", i)(impl.DotConjugate([]complex64{1}, []complex64{i}))
	succeeds(t, "DotConjugate of two", complex64(complex(25, 2)))(impl.DotConjugate([]complex64{complex(1, 2), 2}, []complex64{complex(3, 4), complex(7, 2)}))
	// Each product is narrowed before it is added.
	succeeds[complex64](t, "DotComplex of two that cancel", 0)(impl.DotComplex([]complex64{-16785408, 4097}, []complex64{1, 4097}))
	succeeds[complex64](t, "DotConjugate of two that cancel", 0)(impl.DotConjugate([]complex64{-16785408, 4097}, []complex64{1, 4097}))
	succeeds(t, "DotComplex of sums to the left", complex64(16777216))(impl.DotComplex([]complex64{4096, 1, 1}, []complex64{4096, 1, 1}))
	succeeds(t, "DotConjugate of sums to the left", complex64(16777216))(impl.DotConjugate([]complex64{4096, 1, 1}, []complex64{4096, 1, 1}))
	for _, pairs := range [][2][]complex64{{{1}, nil}, {nil, {1}}, {{1}, {1, 2}}} {
		fails[complex64](t, "DotComplex of other lengths")(impl.DotComplex(pairs[0], pairs[1]))
		fails[complex64](t, "DotConjugate of other lengths")(impl.DotConjugate(pairs[0], pairs[1]))
	}
}

func TestPowersOfAreNarrowedInTheEnd(t *testing.T) {
	succeeds[float32](t, "PowersOf none", 0)(impl.PowersOf(nil))
	succeeds[float32](t, "PowersOf two", 26)(impl.PowersOf([]complex64{complex(3, 4), 1}))
	succeeds[float32](t, "PowersOf many small ones", 16777218)(impl.PowersOf([]complex64{4096, 1, 1}))
	succeeds(t, "PowersOf subnormal powers", num(2))(impl.PowersOf([]complex64{0x1p-75, 0x1p-75, 0x1p-75, 0x1p-75}))
	succeeds(t, "PowersOf a not-a-number", num(0x7fc00000))(impl.PowersOf([]complex64{1, complex(0, num(0x7f800001))}))
}

// The limits of lists are reached exactly and passed by one.
func TestLimitsOfSums(t *testing.T) {
	full, many := make([]float32, 256), make([]float32, 257)
	wide, more := make([]complex64, 256), make([]complex64, 257)
	for i := range full {
		full[i], wide[i] = 1, complex(1, 2)
	}
	expect(t, "MaxNumbers", impl.MaxNumbers, 256)
	succeeds[float32](t, "SumNumbers of 256", 256)(impl.SumNumbers(full))
	succeeds[float32](t, "DotNumbers of 256", 256)(impl.DotNumbers(full, full))
	succeeds(t, "SumComplex of 256", complex64(complex(256, 512)))(impl.SumComplex(wide))
	succeeds(t, "DotComplex of 256", complex64(complex(-768, 1024)))(impl.DotComplex(wide, wide))
	succeeds(t, "DotConjugate of 256", complex64(1280))(impl.DotConjugate(wide, wide))
	succeeds[float32](t, "PowersOf 256", 1280)(impl.PowersOf(wide))
	fails[float32](t, "SumNumbers of 257")(impl.SumNumbers(many))
	fails[float32](t, "DotNumbers of 257")(impl.DotNumbers(many, many))
	fails[complex64](t, "SumComplex of 257")(impl.SumComplex(more))
	fails[complex64](t, "DotComplex of 257")(impl.DotComplex(more, more))
	fails[complex64](t, "DotConjugate of 257")(impl.DotConjugate(more, more))
	fails[float32](t, "PowersOf 257")(impl.PowersOf(more))
}
