package tests

import (
	"fmt"
	"math"
	"strings"
	"testing"

	"loop.example/g01341/impl"
)

// Promise 2: texts tell numbers by their bits and lead back to each of them.
func TestTextsOfNumbers(t *testing.T) {
	succeeds(t, "NumbersText of none", "none")(impl.NumbersText(nil))
	succeeds(t, "NumbersText of two", "3f800000,c0000000")(impl.NumbersText([]float32{1, -2}))
	succeeds(t, "NumbersText of zeros and subnormals", "00000000,80000000,00000001,807fffff")(impl.NumbersText([]float32{0, num(1 << 31), num(1), num(0x807fffff)}))
	succeeds(t, "NumbersText of others", "7f800000,ff800000,7fc00000,7fc00000")(impl.NumbersText([]float32{num(0x7f800000), num(0xff800000), num(0x7f800001), num(0xffffffff)}))
	succeeds[[]float32](t, "ReadNumbers of none", nil)(impl.ReadNumbers("none"))
	succeeds(t, "ReadNumbers of a not-a-number", []float32{num(0x7fc00000)})(impl.ReadNumbers("7fc00000"))
	for _, x := range oddNumbers() {
		text, _ := impl.NumbersText([]float32{1, x})
		succeeds(t, "ReadNumbers of "+text, []float32{1, x})(impl.ReadNumbers(text))
	}
	for _, s := range []string{"", "None", "none,", "none,3f800000", "3f800000,none", ",3f800000", "3f800000,", "3f800000,,3f800000", "3f800000;3f800000", "3f80000", "3f8000000", "3F800000", "3f80000g", "3f80000`", "3f80000/", "3f80000:", " 3f800000", "3f800000 ", "-f800000", "+f800000", "7fc00001", "7f800001", "ffc00000", "ffffffff", "3f80000\xff", "3f8000é", "3f80000é", "3f80000０", "3f80000000000000", "3f_00000"} {
		fails[[]float32](t, fmt.Sprintf("ReadNumbers of %q", s))(impl.ReadNumbers(s))
	}
}

func TestTextsOfComplexNumbers(t *testing.T) {
	succeeds(t, "ComplexText of none", "none")(impl.ComplexText(nil))
	succeeds(t, "ComplexText of 1", "3f80000000000000")(impl.ComplexText([]complex64{1}))
	succeeds(t, "ComplexText of two", "3f80000000000000,00000000c0000000")(impl.ComplexText([]complex64{1, complex(0, -2)}))
	succeeds(t, "ComplexText of others", "800000007fc00000,ff80000000000001")(impl.ComplexText([]complex64{complex(num(1<<31), num(0xffc00001)), complex(num(0xff800000), num(1))}))
	succeeds[[]complex64](t, "ReadComplex of none", nil)(impl.ReadComplex("none"))
	for _, x := range oddComplex() {
		text, _ := impl.ComplexText([]complex64{x, 2})
		succeeds(t, "ReadComplex of "+text, []complex64{x, 2})(impl.ReadComplex(text))
	}
	for _, s := range []string{"", "3f800000", "3f800000,00000000", "3f80000000000000,", ",3f80000000000000", "3f8000000000000", "3f800000000000000", "3F80000000000000", "3f800000 0000000", "7fc0000100000000", "000000007fc00001", "00000000ffc00000", "3f8000000000000\xff", "3f80000é0000000", "none,none", "3f80000000000000,none"} {
		fails[[]complex64](t, fmt.Sprintf("ReadComplex of %q", s))(impl.ReadComplex(s))
	}
}

func TestNames(t *testing.T) {
	for _, s := range []string{"a", "z", "ring", "abcdefgh", "zzzzzzzz"} {
		expect(t, "IsName of "+s, impl.IsName(s), true)
	}
	for _, s := range []string{"", "abcdefghi", "A", "Ring", "a1", "a b", " a", "a\n", "`", "{", "é", "aé", "\xff", "a\x00", "ａ"} {
		expect(t, fmt.Sprintf("IsName of %q", s), impl.IsName(s), false)
	}
	for b := range 256 {
		expect(t, fmt.Sprint("IsName of the byte ", b), impl.IsName(string([]byte{'q', byte(b)})), b >= 'a' && b <= 'z')
	}
}

func TestDecimals(t *testing.T) {
	for n, s := range map[int64]string{0: "0", 7: "7", -4: "-4", 10: "10", 1000000000000000: "1000000000000000", -1000000000000000: "-1000000000000000", 999999999999999: "999999999999999"} {
		expect(t, "Decimal of "+s, impl.Decimal(n), s)
		succeeds(t, "ReadDecimal of "+s, n)(impl.ReadDecimal(s))
	}
	expect(t, "Decimal of the greatest integer", impl.Decimal(math.MaxInt64), "9223372036854775807")
	expect(t, "Decimal of the least integer", impl.Decimal(math.MinInt64), "-9223372036854775808")
	for n := int64(-1100); n <= 1100; n++ {
		succeeds(t, "ReadDecimal of Decimal", n)(impl.ReadDecimal(impl.Decimal(n)))
	}
	for _, s := range []string{"", "-", "-0", "+1", "00", "01", "-01", "--1", "1-", " 1", "1 ", "1\n", "1.0", "1e3", "0x1", "1_0", "1,2", "none", "a", "/", ":", "1:", "１", "\xff", "1000000000000001", "-1000000000000001", "10000000000000000", "9223372036854775808", "18446744073709551617", "-18446744073709551617", strings.Repeat("0", 100) + "1", strings.Repeat("9", 1000)} {
		fails[int64](t, fmt.Sprintf("ReadDecimal of %q", s))(impl.ReadDecimal(s))
	}
}

func TestTextsOfLists(t *testing.T) {
	succeeds(t, "ListText of none", "none")(impl.ListText(nil))
	succeeds(t, "ListText of one", "0")(impl.ListText([]int64{0}))
	succeeds(t, "ListText of limits", "-1000000000000000,3,1000000000000000")(impl.ListText([]int64{-1000000000000000, 3, 1000000000000000}))
	succeeds[[]int64](t, "ReadList of none", nil)(impl.ReadList("none"))
	succeeds(t, "ReadList of limits", []int64{-1000000000000000, 3, 1000000000000000})(impl.ReadList("-1000000000000000,3,1000000000000000"))
	for _, n := range []int64{1000000000000001, -1000000000000001, math.MaxInt64, math.MinInt64} {
		fails[string](t, fmt.Sprint("ListText with ", n))(impl.ListText([]int64{1, n}))
		fails[[]int64](t, fmt.Sprint("ReadList with ", n))(impl.ReadList("1," + impl.Decimal(n)))
	}
	for _, s := range []string{"", ",", "1,", ",1", "1,,2", "1, 2", "1 ,2", "1;2", "none,1", "1,none", "None", "01", "1,-0", "+1", "1,2\n", "1,\xff"} {
		fails[[]int64](t, fmt.Sprintf("ReadList of %q", s))(impl.ReadList(s))
	}
}

// The limits of texts are reached exactly and passed by one.
func TestLimitsOfTexts(t *testing.T) {
	many := strings.Repeat("3f800000,", 255) + "3f800000"
	full := make([]float32, 256)
	wide := make([]complex64, 256)
	for i := range full {
		full[i], wide[i] = 1, complex(1, 1)
	}
	succeeds(t, "NumbersText of 256", many)(impl.NumbersText(full))
	succeeds(t, "ReadNumbers of 256", full)(impl.ReadNumbers(many))
	fails[string](t, "NumbersText of 257")(impl.NumbersText(append(full, 1)))
	fails[[]float32](t, "ReadNumbers of 257")(impl.ReadNumbers(many + ",3f800000"))

	more := strings.ReplaceAll(many, "3f800000", "3f8000003f800000")
	succeeds(t, "ComplexText of 256", more)(impl.ComplexText(wide))
	succeeds(t, "ReadComplex of 256", wide)(impl.ReadComplex(more))
	fails[string](t, "ComplexText of 257")(impl.ComplexText(append(wide, 1)))
	fails[[]complex64](t, "ReadComplex of 257")(impl.ReadComplex(more + ",3f8000003f800000"))

	expect(t, "MaxItems", impl.MaxItems, 64)
	items := make([]int64, 64)
	zeros := strings.Repeat("0,", 63) + "0"
	succeeds(t, "ListText of 64", zeros)(impl.ListText(items))
	succeeds(t, "ReadList of 64", items)(impl.ReadList(zeros))
	fails[string](t, "ListText of 65")(impl.ListText(append(items, 0)))
	fails[[]int64](t, "ReadList of 65")(impl.ReadList(zeros + ",0"))
}

func TestCheckNumbers(t *testing.T) {
	succeeds[int64](t, "CheckOf no bytes", 0)(impl.CheckOf(0, ""))
	succeeds[int64](t, "CheckOf no bytes, from the greatest start", 65002)(impl.CheckOf(65002, ""))
	succeeds[int64](t, "CheckOf a", 260)(impl.CheckOf(0, "a"))
	succeeds[int64](t, "CheckOf ab", (877*260+98+163)%65003)(impl.CheckOf(0, "ab"))
	succeeds[int64](t, "CheckOf the byte 255", 418)(impl.CheckOf(0, "\xff"))
	succeeds[int64](t, "CheckOf the byte 0", 163)(impl.CheckOf(0, "\x00"))
	succeeds[int64](t, "CheckOf from the greatest start", 65003-877+163)(impl.CheckOf(65002, "\x00"))
	text := "höhe\x00\xff und tiefe"
	for cut := range len(text) {
		start, _ := impl.CheckOf(7, text[:cut])
		whole, _ := impl.CheckOf(7, text)
		succeeds(t, "CheckOf a text in two parts", whole)(impl.CheckOf(start, text[cut:]))
	}
	for _, start := range []int64{-1, 65003, math.MaxInt64, math.MinInt64} {
		fails[int64](t, fmt.Sprint("CheckOf from ", start))(impl.CheckOf(start, "a"))
		fails[int64](t, fmt.Sprint("CheckOf no bytes from ", start))(impl.CheckOf(start, ""))
	}
}
