package tests

import (
	"fmt"
	"math"
	"strings"
	"testing"

	"loop.example/g01341/impl"
)

// Promise 1: each function returns for all arguments, and equal results for equal arguments.
func TestNumbersReturnForAllArguments(t *testing.T) {
	alike(t, oddNumbers(), func(x float32) string {
		tenths, ok := impl.TenthsOf(x)
		return fmt.Sprint(impl.IsFinite(x), impl.BitsOf(x), impl.IsSubnormal(x), tenths, ok) + tellList([]float32{impl.FlushNumber(x), impl.SineTurns(x), impl.RootNumber(x), impl.ExpNumber(x), impl.LogNumber(x)})
	})
	alike(t, oddWide(), func(x float64) string {
		return tell(impl.NarrowNumber(x)) + tell(impl.PhasorOf(x)) + tell(impl.NarrowComplex(complex(x, x)))
	})
	alike(t, oddComplex(), func(x complex64) string {
		flags := fmt.Sprint(impl.IsFiniteComplex(x), impl.SameNumber(real(x), imag(x)), impl.SameComplex(x, impl.ConjugateOf(x)))
		numbers := tellList([]float32{impl.PowerOf(x), impl.LongOf(x), impl.AngleOf(x), impl.AngleTurns(real(x), imag(x))})
		products := ""
		for _, y := range []complex64{x, 0, complex(0, 1), complex(num(0x7f800000), num(1)), complex(num(0x7fc00000), 2)} {
			products += tellList([]complex64{impl.MulComplex(x, y), impl.QuotientOf(x, y), impl.QuotientOf(y, x), impl.ScaleComplex(x, real(y))})
		}
		return flags + numbers + products
	})
}

func TestTextsReturnForAllArguments(t *testing.T) {
	alike(t, oddTexts(), func(s string) string {
		all := fmt.Sprint(impl.IsName(s)) + pair(impl.ReadNumbers(s)) + pair(impl.ReadComplex(s)) + pair(impl.ReadDecimal(s)) + pair(impl.ReadList(s))
		for _, start := range oddIntegers() {
			all += pair(impl.CheckOf(start, s))
		}
		return all
	})
	alike(t, oddIntegers(), func(n int64) string {
		return impl.Decimal(n) + pair(impl.FromBits(n)) + pair(impl.ListText([]int64{n}))
	})
}

func TestListsReturnForAllLengths(t *testing.T) {
	lengths := []int{0, 1, 2, 63, 64, 65, 255, 256, 257, 1000}
	alike(t, lengths, func(n int) string {
		all := ""
		for _, m := range lengths {
			all += pair(impl.DotNumbers(ramp(n), ramp(m))) + pair(impl.DotComplex(complexRamp(n), complexRamp(m))) + pair(impl.DotConjugate(complexRamp(n), complexRamp(m)))
		}
		all += pair(impl.SumNumbers(ramp(n))) + pair(impl.SumComplex(complexRamp(n))) + pair(impl.PowersOf(complexRamp(n)))
		return all + pair(impl.NumbersText(ramp(n))) + pair(impl.ComplexText(complexRamp(n))) + pair(impl.ListText(make([]int64, n)))
	})
	alike(t, []int{0}, func(int) string {
		odd, wide := oddNumbers(), oddComplex()[:256]
		return pair(impl.SumNumbers(odd)) + pair(impl.DotNumbers(odd, odd)) + pair(impl.SumComplex(wide)) + pair(impl.DotComplex(wide, wide)) + pair(impl.DotConjugate(wide, wide)) + pair(impl.PowersOf(wide)) + pair(impl.NumbersText(odd)) + pair(impl.ComplexText(wide))
	})
}

// alike tells each argument three times, forwards, backwards and forwards again, so that a state that is kept would show.
func alike[T any](t *testing.T, list []T, tellAll func(T) string) {
	t.Helper()
	first := make([]string, len(list))
	for i, x := range list {
		first[i] = tellAll(x)
	}
	for i := len(list) - 1; i >= 0; i-- {
		if tellAll(list[i]) != first[i] {
			t.Errorf("argument %d has another result the second time", i)
		}
	}
	for i, x := range list {
		if tellAll(x) != first[i] {
			t.Errorf("argument %d has another result the third time", i)
		}
	}
}

// Promise 1: no function modifies its arguments, or what lies behind them.
func TestListsAreNotModified(t *testing.T) {
	for _, n := range []int{0, 1, 5, 64, 256, 257} {
		unchanged(t, "a function of numbers", ramp(n), 77, func(list []float32) {
			impl.SumNumbers(list)
			impl.DotNumbers(list, list)
			impl.NumbersText(list)
		})
		unchanged(t, "a function of complex numbers", complexRamp(n), complex(77, 78), func(list []complex64) {
			impl.SumComplex(list)
			impl.DotComplex(list, list)
			impl.DotConjugate(list, list)
			impl.PowersOf(list)
			impl.ComplexText(list)
		})
		unchanged(t, "a function of integers", make([]int64, n), 77, func(list []int64) {
			impl.ListText(list)
		})
	}
	odd := []float32{num(0xffc00001), num(1), num(1 << 31), num(0x7f800001)}
	bits := make([]uint32, len(odd))
	for i, x := range odd {
		bits[i] = math.Float32bits(x)
	}
	impl.SumNumbers(odd)
	impl.DotNumbers(odd, odd)
	impl.NumbersText(odd)
	for i, x := range odd {
		if math.Float32bits(x) != bits[i] {
			t.Errorf("the bits %08x became %08x", bits[i], math.Float32bits(x))
		}
	}
}

// Promise 1: each returned list is new, also together with its unused capacity.
func TestReturnedListsAreNew(t *testing.T) {
	spoil(t, "ReadNumbers", strings.Repeat("3f800000,", 5)+"c0000000", impl.ReadNumbers)
	spoil(t, "ReadComplex", "3f80000000000000,00000000c0000000", impl.ReadComplex)
	spoil(t, "ReadList", "1,-2,3", impl.ReadList)
	spoil(t, "ReadList of none", "none", impl.ReadList)
}

func spoil[T any](t *testing.T, what, s string, read func(string) ([]T, bool)) {
	t.Helper()
	one, _ := read(s)
	want := tellList(one)
	two, _ := read(s)
	var other T
	whole := append(one[:cap(one)], other)
	for i := range whole {
		whole[i] = other
	}
	clear(one[:cap(one)])
	three, _ := read(s)
	if tellList(two) != want || tellList(three) != want {
		t.Errorf("%s returns memory that another result has, too", what)
	}
}
