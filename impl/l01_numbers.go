package impl

import (
	"math"
	"strconv"
	"strings"
)

// Limits of chapter 1.
const (
	MaxNumbers = 256
	MaxValue   = 1000000000000000
	MaxItems   = 64
	CheckSize  = 65003
)

const (
	notNumberBits = 2143289344
	mostBits      = 4294967295
	emptyText     = "none"
)

// SameNumber reports whether two numbers are the same.
func SameNumber(a, b float32) bool { return BitsOf(a) == BitsOf(b) }

// IsFinite reports whether x is neither an infinity nor a not-a-number.
func IsFinite(x float32) bool { return isFiniteWide(float64(x)) }

func isFiniteWide(x float64) bool { return math.Abs(x) <= math.MaxFloat64 }

// BitsOf returns the bits of a number, the same ones for all not-a-numbers.
func BitsOf(x float32) int64 {
	if math.IsNaN(float64(x)) {
		return notNumberBits
	}
	return int64(math.Float32bits(x))
}

// FromBits returns the number with bits from 0 to 4294967295.
func FromBits(n int64) (float32, bool) {
	if n < 0 || n > mostBits {
		return 0, false
	}
	return math.Float32frombits(uint32(n)), true
}

// NarrowNumber returns the nearest 32-bit number.
func NarrowNumber(x float64) float32 { return float32(x) }

// IsSubnormal reports whether x is subnormal.
func IsSubnormal(x float32) bool {
	return x != 0 && math.Abs(float64(x)) < 0x1p-126
}

// FlushNumber returns x, but a zero with its sign if it is subnormal.
func FlushNumber(x float32) float32 {
	if IsSubnormal(x) {
		return float32(math.Copysign(0, float64(x)))
	}
	return x
}

// SameComplex reports whether both parts of two complex numbers are the same.
func SameComplex(a, b complex64) bool {
	return SameNumber(real(a), real(b)) && SameNumber(imag(a), imag(b))
}

// IsFiniteComplex reports whether both parts are finite.
func IsFiniteComplex(x complex64) bool {
	return IsFinite(real(x)) && IsFinite(imag(x))
}

// NarrowComplex returns a number with both parts narrowed.
func NarrowComplex(x complex128) complex64 {
	return complex(NarrowNumber(real(x)), NarrowNumber(imag(x)))
}

// wideProduct returns the product of x and y with 64-bit parts.
// The conversions here and below keep a compiler from fusing a product with the sum around it, which would round once instead of twice.
func wideProduct(x, y complex64) complex128 {
	a, b := float64(real(x)), float64(imag(x))
	c, d := float64(real(y)), float64(imag(y))
	return complex(float64(a*c)-float64(b*d), float64(a*d)+float64(b*c))
}

// widePower returns the power of x as a 64-bit number.
func widePower(x complex64) float64 {
	a, b := float64(real(x)), float64(imag(x))
	return float64(a*a) + float64(b*b)
}

// addComplex adds part by part in 32-bit numbers.
func addComplex(x, y complex64) complex64 {
	return complex(real(x)+real(y), imag(x)+imag(y))
}

// MulComplex returns the product of two complex numbers, narrowed only in the end.
func MulComplex(x, y complex64) complex64 { return NarrowComplex(wideProduct(x, y)) }

// ScaleComplex returns the product of a complex number and a number.
func ScaleComplex(x complex64, by float32) complex64 {
	return complex(float32(real(x)*by), float32(imag(x)*by))
}

// ConjugateOf returns the conjugate.
func ConjugateOf(x complex64) complex64 { return complex(real(x), -imag(x)) }

// PowerOf returns the power, narrowed.
func PowerOf(x complex64) float32 { return NarrowNumber(widePower(x)) }

// LongOf returns the square root of the power, narrowed.
func LongOf(x complex64) float32 { return NarrowNumber(math.Sqrt(widePower(x))) }

// QuotientOf returns x divided by y; a y of zero divides by zero as IEEE 754 has it.
func QuotientOf(x, y complex64) complex64 {
	product, power := wideProduct(x, ConjugateOf(y)), widePower(y)
	return NarrowComplex(complex(real(product)/power, imag(product)/power))
}

// isManyTurns reports whether turns are so many that no places behind the point are left of them.
func isManyTurns(turns float64) bool { return math.Abs(turns) >= 1<<52 }

// turnsLeft returns turns less the whole ones, from 0 to 1.
// The whole ones go through an integer, which has no -0, so that -0 stays -0.
func turnsLeft(turns float64) float64 {
	left := turns - float64(int64(turns))
	if left < 0 {
		left++
	}
	return left
}

// wideSine returns the sine of turns that are not many.
func wideSine(turns float64) float64 {
	const round = 6.283185307179586
	f := turnsLeft(turns)
	turned := f >= 0.5
	if turned {
		f -= 0.5
	}
	if f > 0.25 {
		f = 0.5 - f
	}
	z := float64(f * round)
	u := float64(z * z)
	p := 1.0
	for k := 8.0; k >= 1; k-- {
		p = 1 - float64(u*p)/(2*k*(2*k+1))
	}
	if turned {
		return -float64(z * p)
	}
	return float64(z * p)
}

// PhasorOf returns the point of the unit circle at some turns.
func PhasorOf(turns float64) complex64 {
	if !isFiniteWide(turns) {
		return complex(notANumber(), notANumber())
	}
	if isManyTurns(turns) {
		return 1
	}
	f, quarters := turnsLeft(turns), 0
	for f >= 0.25 {
		f -= 0.25
		quarters++
	}
	c, s := wideSine(0.25-f), wideSine(f)
	// 0 - s is not -s: the former is +0 where s is +0.
	switch quarters {
	case 1:
		return NarrowComplex(complex(0-s, c))
	case 2:
		return NarrowComplex(complex(0-c, 0-s))
	case 3:
		return NarrowComplex(complex(s, 0-c))
	}
	return NarrowComplex(complex(c, s))
}

func notANumber() float32 { return float32(math.NaN()) }

// AngleOf returns the angle of a complex number in turns.
func AngleOf(x complex64) float32 { return AngleTurns(imag(x), real(x)) }

// SineTurns returns the sine of some turns.
func SineTurns(x float32) float32 {
	if !IsFinite(x) {
		return notANumber()
	}
	if isManyTurns(float64(x)) {
		return 0
	}
	return NarrowNumber(wideSine(float64(x)))
}

// AngleTurns returns the angle of the point with the coordinates x and y, in turns from -0.5 to 0.5.
func AngleTurns(y, x float32) float32 {
	if !IsFinite(y) || !IsFinite(x) {
		return notANumber()
	}
	if y == 0 && x == 0 {
		return 0
	}
	a, b := math.Abs(float64(y)), math.Abs(float64(x))
	steep := a > b
	if steep {
		a, b = b, a
	}
	angle := wideAngle(a / b)
	if steep {
		angle = 0.25 - angle
	}
	if x < 0 {
		angle = 0.5 - angle
	}
	if y < 0 {
		angle = -angle
	}
	return NarrowNumber(angle)
}

// wideAngle returns the angle, in turns, whose tangent is t, from 0 to 1.
func wideAngle(t float64) float64 {
	const round = 6.283185307179586
	for range 3 {
		t /= 1 + math.Sqrt(1+float64(t*t))
	}
	u := float64(t * t)
	p := 0.0
	for k := 15.0; k >= 1; k -= 2 {
		p = 1/k - float64(u*p)
	}
	return 8 * float64(t*p) / round
}

// TenthsOf returns the tenths of decibels of a finite power greater than 0.
func TenthsOf(power float32) (int64, bool) {
	if !IsFinite(power) || power <= 0 {
		return 0, false
	}
	tenths := float64(wideLog(float64(power)) * 43.42944819032518)
	return int64(math.Floor(tenths + 0.5)), true
}

// wideLog returns the logarithm of a finite number greater than 0.
func wideLog(x float64) float64 {
	const logOfTwo = 0.6931471805599453
	e := 0.0
	for x >= 1.5 {
		x /= 2
		e++
	}
	for x < 0.75 {
		x *= 2
		e--
	}
	s := (x - 1) / (x + 1)
	u := float64(s * s)
	q := 0.0
	for k := 25.0; k >= 1; k -= 2 {
		q = 1/k + float64(u*q)
	}
	return float64(2*float64(s*q)) + float64(e*logOfTwo)
}

// RootNumber returns the square root.
func RootNumber(x float32) float32 { return NarrowNumber(math.Sqrt(float64(x))) }

// ExpNumber returns e to the power of x.
func ExpNumber(x float32) float32 {
	if x > 200 {
		return float32(math.Inf(1))
	}
	if x < -200 {
		return 0
	}
	t := float64(x) / 256
	p := 1.0
	for k := 12.0; k >= 1; k-- {
		p = 1 + float64(t*p)/k
	}
	for range 8 {
		p *= p
	}
	return NarrowNumber(p)
}

// LogNumber returns the logarithm, and the negative infinity for both zeros.
func LogNumber(x float32) float32 {
	switch {
	case x == 0:
		return float32(math.Inf(-1))
	case x > math.MaxFloat32:
		return x
	case x > 0:
		return NarrowNumber(wideLog(float64(x)))
	}
	return notANumber()
}

// SumNumbers returns the sum from left to right.
func SumNumbers(list []float32) (float32, bool) {
	if len(list) > MaxNumbers {
		return 0, false
	}
	sum := float32(0)
	for _, x := range list {
		sum += x
	}
	return sum, true
}

// DotNumbers returns the sum of the products of two lists from left to right.
func DotNumbers(a, b []float32) (float32, bool) {
	if len(a) > MaxNumbers || len(a) != len(b) {
		return 0, false
	}
	sum := float32(0)
	for i, x := range a {
		sum += float32(x * b[i])
	}
	return sum, true
}

// SumComplex returns the sum from left to right.
func SumComplex(list []complex64) (complex64, bool) {
	if len(list) > MaxNumbers {
		return 0, false
	}
	sum := complex64(0)
	for _, x := range list {
		sum = addComplex(sum, x)
	}
	return sum, true
}

// DotComplex returns the sum of the products of two lists from left to right.
func DotComplex(a, b []complex64) (complex64, bool) {
	return dotOf(a, b, MulComplex)
}

// DotConjugate returns the sum of the products of the conjugates of a and the numbers of b from left to right.
func DotConjugate(a, b []complex64) (complex64, bool) {
	return dotOf(a, b, func(x, y complex64) complex64 {
		return MulComplex(ConjugateOf(x), y)
	})
}

// dotOf returns the sum of the products, as they are told, of two lists from left to right.
func dotOf(a, b []complex64, product func(x, y complex64) complex64) (complex64, bool) {
	if len(a) > MaxNumbers || len(a) != len(b) {
		return 0, false
	}
	sum := complex64(0)
	for i, x := range a {
		sum = addComplex(sum, product(x, b[i]))
	}
	return sum, true
}

// PowersOf returns the sum of the powers from left to right, narrowed only in the end.
func PowersOf(list []complex64) (float32, bool) {
	if len(list) > MaxNumbers {
		return 0, false
	}
	sum := 0.0
	for _, x := range list {
		sum += widePower(x)
	}
	return NarrowNumber(sum), true
}

// textOf returns the words of a list with commas between them.
func textOf[T any](list []T, wordOf func(T) string) string {
	if len(list) == 0 {
		return emptyText
	}
	words := make([]string, len(list))
	for i, x := range list {
		words[i] = wordOf(x)
	}
	return strings.Join(words, ",")
}

// readText returns the list of at most most items whose words s has.
func readText[T any](s string, most int, read func(string) (T, bool)) ([]T, bool) {
	if s == emptyText {
		return nil, true
	}
	words := strings.SplitN(s, ",", most+1)
	if len(words) > most {
		return nil, false
	}
	list := make([]T, len(words))
	for i, word := range words {
		x, ok := read(word)
		if !ok {
			return nil, false
		}
		list[i] = x
	}
	return list, true
}

func numberWord(x float32) string {
	digits := strconv.FormatInt(BitsOf(x), 16)
	return strings.Repeat("0", 8-len(digits)) + digits
}

// readNumberWord returns the number whose numberWord is word, so that just one of the bits of not-a-numbers is read.
func readNumberWord(word string) (float32, bool) {
	if len(word) != 8 {
		return 0, false
	}
	bits := int64(0)
	for _, r := range word {
		digit, ok := hexDigit(r)
		if !ok {
			return 0, false
		}
		bits = bits*16 + digit
	}
	x, ok := FromBits(bits)
	return x, ok && BitsOf(x) == bits
}

func hexDigit(r rune) (int64, bool) {
	switch {
	case isDigit(r):
		return int64(r - '0'), true
	case r >= 'a' && r <= 'f':
		return int64(r-'a') + 10, true
	}
	return 0, false
}

func isDigit(r rune) bool { return r >= '0' && r <= '9' }

func complexWord(x complex64) string {
	return numberWord(real(x)) + numberWord(imag(x))
}

func readComplexWord(word string) (complex64, bool) {
	if len(word) != 16 {
		return 0, false
	}
	a, first := readNumberWord(word[:8])
	b, second := readNumberWord(word[8:])
	return complex(a, b), first && second
}

// NumbersText returns the text of numbers.
func NumbersText(list []float32) (string, bool) {
	if len(list) > MaxNumbers {
		return "", false
	}
	return textOf(list, numberWord), true
}

// ReadNumbers returns the numbers whose text is s.
func ReadNumbers(s string) ([]float32, bool) {
	return readText(s, MaxNumbers, readNumberWord)
}

// ComplexText returns the text of complex numbers.
func ComplexText(list []complex64) (string, bool) {
	if len(list) > MaxNumbers {
		return "", false
	}
	return textOf(list, complexWord), true
}

// ReadComplex returns the complex numbers whose text is s.
func ReadComplex(s string) ([]complex64, bool) {
	return readText(s, MaxNumbers, readComplexWord)
}

// IsName reports whether s has 1 to 8 letters a to z.
func IsName(s string) bool {
	if len(s) < 1 || len(s) > 8 {
		return false
	}
	for _, r := range s {
		if r < 'a' || r > 'z' {
			return false
		}
	}
	return true
}

// Decimal returns n in decimal.
func Decimal(n int64) string { return strconv.FormatInt(n, 10) }

// ReadDecimal returns the number from -MaxValue to MaxValue whose Decimal is s.
func ReadDecimal(s string) (int64, bool) {
	digits, negative := strings.CutPrefix(s, "-")
	n := int64(0)
	for _, r := range digits {
		if !isDigit(r) {
			return 0, false
		}
		n = n*10 + int64(r-'0')
		if n > MaxValue {
			return 0, false
		}
	}
	if negative {
		n = -n
	}
	// No digits, leading zeros and -0 come this far.
	if Decimal(n) != s {
		return 0, false
	}
	return n, true
}

// ListText returns the text of at most MaxItems numbers from -MaxValue to MaxValue.
func ListText(list []int64) (string, bool) {
	if len(list) > MaxItems {
		return "", false
	}
	for _, n := range list {
		if n < -MaxValue || n > MaxValue {
			return "", false
		}
	}
	return textOf(list, Decimal), true
}

// ReadList returns the list whose ListText is s.
func ReadList(s string) ([]int64, bool) {
	return readText(s, MaxItems, ReadDecimal)
}

// CheckOf returns the check number of a text that begins with start.
func CheckOf(start int64, s string) (int64, bool) {
	if start < 0 || start >= CheckSize {
		return 0, false
	}
	check := start
	for i := range len(s) {
		check = (877*check + int64(s[i]) + 163) % CheckSize
	}
	return check, true
}
