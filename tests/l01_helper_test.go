package tests

import (
	"fmt"
	"math"
	"slices"
	"strings"
	"testing"

	"loop.example/g01341/impl"
)

func num(bits uint32) float32 { return math.Float32frombits(bits) }

// oddNumbers has both signs of zeros, subnormals, ordinary numbers, limits and infinities, and three not-a-numbers.
func oddNumbers() []float32 {
	var list []float32
	for _, bits := range []uint32{0, 1, 2, 0x7fffff, 0x800000, 0x800001, 0x33000000, 0x3e800000, 0x3eaaaaab, 0x3f000000, 0x3f7fffff, 0x3f800000, 0x3fc00000, 0x40490fdb, 0x42f6e979, 0x43480000, 0x43480001, 0x4b000000, 0x59800000, 0x7149f2ca, 0x7f7fffff, 0x7f800000} {
		list = append(list, num(bits), num(bits|1<<31))
	}
	return append(list, num(0x7fc00000), num(0x7f800001), num(0xffffffff))
}

func oddComplex() []complex64 {
	var list []complex64
	for _, a := range oddNumbers() {
		for _, b := range oddNumbers() {
			list = append(list, complex(a, b))
		}
	}
	return list
}

func oddWide() []float64 {
	list := []float64{5e-324, -5e-324, 1e-300, -1e-300, math.MaxFloat64, -math.MaxFloat64, 1 << 52, -(1 << 52), 1<<52 - 0.5, 1e40, -1e40, 1e-60, 0.1, -0.1}
	for _, x := range oddNumbers() {
		list = append(list, float64(x))
	}
	return list
}

func oddIntegers() []int64 {
	return []int64{0, 1, -1, 7, -10, 255, 65002, 65003, 2143289344, 2143289345, 4294967295, 4294967296, 999999999999999, 1000000000000000, -1000000000000000, 1000000000000001, -1000000000000001, math.MaxInt64, math.MinInt64}
}

func oddTexts() []string {
	list := []string{"", " ", "none", "none,none", "None", ",", "-", "--1", "-0", "+1", "0", "00", "7", "-7", "1,2", "1,,2", ",1", "1,", "1, 2", "1.0", "0x1", "1e3", "1_0", "1000000000000000", "-1000000000000000", "1000000000000001", "-1000000000000001", "9223372036854775807", "9223372036854775808", "-9223372036854775808", "18446744073709551617", "a", "z", "A", "abcdefgh", "abcdefghi", "a1", "a b", "3f800000", "3F800000", "3f80000", "3f8000000", "3f80000g", "7fc00000", "7fc00001", "ffc00000", "7f800001", "7f800000", "3f80000000000000", "3f8000007fc00000", "3f8000007fc00001", "3f800000,3f800000", "3f800000 00000000", "\x00", "\xff", "\xff\xff\xff\xff\xff\xff\xff\xff", "é", "3f80000é", "3f8000é", "３", "3f80000\n", "7\n", "a\n"}
	return append(list, strings.Repeat("9", 400), strings.Repeat("0", 400)+"1", strings.Repeat("1,", 400), strings.Repeat("ab", 500))
}

// tell writes a result so that equal texts mean equal results: numbers by their bits, and nil lists as empty ones.
func tell(x any) string {
	switch v := x.(type) {
	case float32:
		return fmt.Sprintf("%08x", impl.BitsOf(v))
	case complex64:
		return tell(real(v)) + tell(imag(v)) + "i"
	case []float32:
		return tellList(v)
	case []complex64:
		return tellList(v)
	case []int64:
		return tellList(v)
	case [][]complex64:
		return tellList(v)
	}
	return fmt.Sprintf("%#v", x)
}

func tellList[T any](list []T) string {
	words := make([]string, len(list))
	for i, x := range list {
		words[i] = tell(x)
	}
	return "[" + strings.Join(words, " ") + "]"
}

// pair puts a result and its success into one text.
func pair[T any](x T, ok bool) string { return tell(x) + fmt.Sprintf(" %v", ok) }

func expect(t *testing.T, what string, got, want any) {
	t.Helper()
	if tell(got) != tell(want) {
		t.Errorf("%s: got %s, want %s", what, tell(got), tell(want))
	}
}

// succeeds checks a result of a function that must succeed.
func succeeds[T any](t *testing.T, what string, want T) func(T, bool) {
	t.Helper()
	return func(got T, ok bool) {
		t.Helper()
		if pair(got, ok) != pair(want, true) {
			t.Errorf("%s: got %s, want %s", what, pair(got, ok), pair(want, true))
		}
	}
}

// fails checks that a function fails and returns nothing else then.
func fails[T any](t *testing.T, what string) func(T, bool) {
	t.Helper()
	return func(got T, ok bool) {
		t.Helper()
		var none T
		if pair(got, ok) != pair(none, false) {
			t.Errorf("%s: got %s, want %s", what, pair(got, ok), pair(none, false))
		}
	}
}

func ramp(n int) []float32 {
	list := make([]float32, n)
	for i := range list {
		list[i] = float32(i%17) - 8
	}
	return list
}

func complexRamp(n int) []complex64 {
	list := make([]complex64, n)
	for i := range list {
		list[i] = complex(float32(i%13)-6, float32(i%7)-3)
	}
	return list
}

// unchanged calls f with a list in the middle of a larger one, and checks that neither the list nor what lies around it changes.
func unchanged[T any](t *testing.T, what string, list []T, guard T, f func([]T)) {
	t.Helper()
	whole := append(append([]T{guard, guard}, list...), guard, guard, guard)
	before := slices.Clone(whole)
	f(whole[2 : 2+len(list)])
	if tellList(whole) != tellList(before) {
		t.Errorf("%s changes its argument", what)
	}
}
