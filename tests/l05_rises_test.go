package tests

import (
	"fmt"
	"math"
	"testing"

	"loop.example/g01341/impl"
)

func TestRises(t *testing.T) {
	ring := []impl.Rise{rise(0, 1, 5, 1), rise(1, 2, 3, 1), rise(2, 0, -7, 2)}
	for count := int64(-2); count < 40; count++ {
		if got, want := impl.AreRises(ring, count), count >= 3 && count <= 32; got != want {
			t.Errorf("AreRises with %d marks: got %v", count, got)
		}
		if got, want := impl.AreRises(nil, count), count >= 1 && count <= 32; got != want {
			t.Errorf("AreRises of none with %d marks: got %v", count, got)
		}
	}
	for _, count := range []int64{1 << 32, 1<<32 + 3, math.MaxInt64, math.MinInt64} {
		expect(t, "AreRises with many marks", impl.AreRises(ring, count), false)
		failing(t, "RiseHeights with many marks", said(impl.RiseHeights(ring, count)))
		failing(t, "RiseSquares with many marks", saidTwo(impl.RiseSquares(ring, count)))
	}
	for n := range 40 {
		if got, want := impl.AreRises(chainOf(n, 1, 1), 32), n <= 32; got != want {
			t.Errorf("%d rises: got %v", n, got)
		}
	}
	for _, r := range []impl.Rise{rise(0, 2, impl.MaxSmall, 1), rise(2, 0, -impl.MaxSmall, 1), rise(0, 1, 0, 1), rise(1, 2, 0, impl.MaxSmall), rise(1, 0, -3, 7)} {
		expect(t, fmt.Sprintf("AreRises %v", r), impl.AreRises([]impl.Rise{r}, 3), true)
	}
	for _, wrong := range wrongRises() {
		for i := range 3 {
			rises := append([]impl.Rise{}, ring...)
			rises[i] = wrong
			what := fmt.Sprint(rises)
			expect(t, "AreRises "+what, impl.AreRises(rises, 3), false)
			failing(t, "RiseHeights "+what, said(impl.RiseHeights(append(ring, rises...), 3)))
			failing(t, "RiseSquares "+what, saidTwo(impl.RiseSquares(append(ring, rises...), 3)))
			failing(t, "RiseMiss "+what, said(impl.RiseMiss(rises)))
			failing(t, "ShareMiss "+what, said(impl.ShareMiss(rises)))
		}
	}
}

func TestMisses(t *testing.T) {
	for _, c := range []struct {
		rises  []impl.Rise
		miss   int64
		smalls []int64
	}{
		{[]impl.Rise{rise(0, 1, 5, 1), rise(1, 2, 3, 1), rise(2, 0, -7, 2)}, 1, []int64{5, 3, -8}},
		// What is taken away is rounded down, also below 0.
		{[]impl.Rise{rise(0, 1, 5, 1), rise(1, 2, 3, 1), rise(2, 0, -9, 2)}, -1, []int64{6, 3, -9}}, {[]impl.Rise{rise(4, 5, 3, 1), rise(5, 4, -1, 2)}, 2, []int64{3, -3}},
		{[]impl.Rise{rise(4, 5, 1, 1), rise(5, 4, -3, 2)}, -2, []int64{2, -2}}, {[]impl.Rise{rise(0, 1, 0, 1), rise(1, 2, 0, 1), rise(2, 0, -6, 1)}, -6, []int64{2, 2, -4}},
		{[]impl.Rise{rise(0, 1, 7, 3), rise(1, 0, 0, 4)}, 7, []int64{4, -4}}, {[]impl.Rise{rise(0, 1, -7, 3), rise(1, 0, 0, 4)}, -7, []int64{-4, 4}},
		{[]impl.Rise{rise(2, 1, 100, 1), rise(1, 2, 0, 10000)}, 100, []int64{100, -100}}, {[]impl.Rise{rise(2, 1, -100, 1), rise(1, 2, 0, 10000)}, -100, []int64{-99, 99}},
		// Rounds without a miss.
		{[]impl.Rise{rise(0, 1, 5, 1), rise(1, 2, 3, 1), rise(2, 0, -8, 2)}, 0, []int64{5, 3, -8}}, {[]impl.Rise{rise(0, 31, 0, 7), rise(31, 0, 0, 7)}, 0, []int64{0, 0}},
		// A round can come through a mark again, and begin at any one.
		{[]impl.Rise{rise(3, 1, 1, 1), rise(1, 3, 1, 1), rise(3, 2, 1, 1), rise(2, 3, 1, 1)}, 4, []int64{0, 0, 0, 0}}, {[]impl.Rise{rise(31, 30, 9, 2), rise(30, 31, 3, 1)}, 12, []int64{1, -1}},
		{[]impl.Rise{rise(0, 1, 10, 1), rise(1, 0, -10, 1), rise(0, 1, 14, 1), rise(1, 0, -10, 1)}, 4, []int64{9, -11, 13, -11}},
		// Smalls that become less than the limit are told, too.
		{[]impl.Rise{rise(0, 1, impl.MaxSmall, impl.MaxSmall), rise(1, 2, -impl.MaxSmall, 1), rise(2, 0, -impl.MaxSmall, 1)}, -impl.MaxSmall, []int64{19999999, -9999999, -10000000}},
		{[]impl.Rise{rise(0, 1, -impl.MaxSmall, impl.MaxSmall), rise(1, 2, impl.MaxSmall, 1), rise(2, 0, impl.MaxSmall, 1)}, impl.MaxSmall, []int64{-19999998, 9999999, 9999999}},
	} {
		want := make([]impl.Rise, len(c.rises))
		for i, r := range c.rises {
			want[i] = rise(r.From, r.To, c.smalls[i], r.Long)
		}
		saidTo(t, fmt.Sprintf("RiseMiss %v", c.rises), said(impl.RiseMiss(c.rises)), c.miss)
		saidTo(t, fmt.Sprintf("ShareMiss %v", c.rises), said(impl.ShareMiss(c.rises)), want)
	}
}

func TestRoundsThatAreNone(t *testing.T) {
	for _, rises := range [][]impl.Rise{
		nil, {}, {rise(0, 1, 5, 1)}, {rise(1, 1, 5, 1)}, {rise(0, 1, 5, 1), rise(0, 1, 5, 1)}, {rise(0, 1, 5, 1), rise(1, 2, 5, 1)}, {rise(0, 1, 5, 1), rise(2, 0, 5, 1)},
		{rise(0, 1, 5, 1), rise(1, 2, 3, 1), rise(0, 2, 7, 2)}, {rise(0, 1, 5, 1), rise(2, 1, 3, 1), rise(2, 0, 7, 2)}, {rise(1, 0, 5, 1), rise(1, 2, 3, 1), rise(2, 0, 7, 2)}, {rise(1, 2, 5, 1), rise(0, 1, 3, 1), rise(2, 0, 7, 2)},
		{rise(0, 1, 5, 1), rise(1, 0, 3, 1), rise(2, 3, 5, 1), rise(3, 2, 3, 1)}, {rise(0, 32, 5, 1), rise(32, 0, 3, 1)}, {rise(32, 0, 5, 1), rise(0, 32, 3, 1)}, {rise(-1, 0, 5, 1), rise(0, -1, 3, 1)},
		{rise(0, 1, 5, 1), rise(1, 1, 0, 1), rise(1, 0, 3, 1)}, chainOf(30, 1, 1), chainOf(32, 1, 1), chainOf(33, 1, 1), chainOf(62, 1, 1), chainOf(3100, 1, 1),
	} {
		failing(t, fmt.Sprintf("RiseMiss %v", rises), said(impl.RiseMiss(rises)))
		failing(t, fmt.Sprintf("ShareMiss %v", rises), said(impl.ShareMiss(rises)))
	}
}

// backAndForth returns n rises between the marks 0 and 31.
func backAndForth(n int, small, long int64) []impl.Rise {
	var rises []impl.Rise
	for i := range int64(n) {
		rises = append(rises, rise(i%2*31, (i+1)%2*31, small, long))
	}
	return rises
}

func TestLongRounds(t *testing.T) {
	for n := 2; n <= 34; n += 2 {
		for _, small := range []int64{impl.MaxSmall, -impl.MaxSmall} {
			rises := backAndForth(n, small, impl.MaxSmall)
			if n > 32 {
				failing(t, "RiseMiss of too many", said(impl.RiseMiss(rises)))
				failing(t, "ShareMiss of too many", said(impl.ShareMiss(rises)))
				continue
			}
			saidTo(t, fmt.Sprintf("RiseMiss of %d rises", n), said(impl.RiseMiss(rises)), int64(n)*small)
			saidTo(t, fmt.Sprintf("ShareMiss of %d rises", n), said(impl.ShareMiss(rises)), backAndForth(n, 0, impl.MaxSmall))
		}
	}
	saidTo(t, "RiseMiss of 31 rises", said(impl.RiseMiss(chainOf(31, 3, 1))), int64(93))
}

func TestHeights(t *testing.T) {
	for _, c := range []struct {
		rises []impl.Rise
		want  []int64
	}{
		{[]impl.Rise{rise(0, 1, 5, 1), rise(1, 2, 3, 1), rise(2, 0, -7, 2)}, []int64{0, 5, 8}}, {nil, []int64{0}}, {[]impl.Rise{rise(1, 0, 5, 1)}, []int64{0, -5}}, {[]impl.Rise{rise(1, 0, -5, 1), rise(2, 1, 9, 1)}, []int64{0, 5, -4}},
		// Rises that are told twice: the first one that can be told counts.
		{[]impl.Rise{rise(0, 1, 5, 1), rise(0, 1, 7, 1)}, []int64{0, 5}}, {[]impl.Rise{rise(1, 0, 5, 1), rise(0, 1, 7, 1)}, []int64{0, -5}}, {[]impl.Rise{rise(0, 1, 7, 1), rise(1, 0, 5, 1)}, []int64{0, 7}},
		// Again and again, it is the first one of all, not the next one.
		{[]impl.Rise{rise(1, 2, 10, 1), rise(0, 1, 1, 1), rise(0, 2, 100, 1)}, []int64{0, 1, 11}}, {[]impl.Rise{rise(2, 1, 10, 1), rise(0, 1, 1, 1), rise(0, 2, 100, 1)}, []int64{0, 1, -9}},
		{[]impl.Rise{rise(2, 3, 1, 1), rise(1, 2, 1, 1), rise(0, 1, 1, 1), rise(0, 3, 50, 1), rise(0, 2, 90, 1)}, []int64{0, 1, 2, 3}}, {[]impl.Rise{rise(0, 2, 50, 1), rise(1, 2, 1, 1), rise(0, 1, 1, 1)}, []int64{0, 49, 50}},
		{[]impl.Rise{rise(0, 1, 0, 1), rise(1, 2, 0, 1)}, []int64{0, 0, 0}}, {[]impl.Rise{rise(0, 1, 9999999, 1), rise(1, 2, 9999999, 1), rise(2, 3, 9999999, 1)}, []int64{0, 9999999, 19999998, 29999997}},
	} {
		saidTo(t, fmt.Sprintf("RiseHeights %v", c.rises), said(impl.RiseHeights(c.rises, int64(len(c.want)))), c.want)
	}
	// Marks without a rise, and marks that no rise reaches from 0.
	for _, c := range []struct {
		rises []impl.Rise
		count int64
	}{{nil, 2}, {[]impl.Rise{rise(0, 1, 5, 1)}, 3}, {[]impl.Rise{rise(1, 2, 5, 1)}, 3}, {[]impl.Rise{rise(0, 2, 5, 1)}, 3}, {[]impl.Rise{rise(1, 2, 5, 1), rise(2, 1, -5, 1)}, 3}, {[]impl.Rise{rise(0, 1, 5, 1), rise(2, 3, 5, 1)}, 4}, {nil, 0}, {nil, -1}, {nil, 33}} {
		failing(t, fmt.Sprintf("RiseHeights %v of %d marks", c.rises, c.count), said(impl.RiseHeights(c.rises, c.count)))
	}
	for _, small := range []int64{impl.MaxSmall, -impl.MaxSmall} {
		want := make([]int64, 31)
		for i := range want {
			want[i] = int64(i) * small
		}
		saidTo(t, "RiseHeights of a chain", said(impl.RiseHeights(chainOf(30, small, 9), 31)), want)
		saidTo(t, "RiseHeights of a chain turned around", said(impl.RiseHeights(turned(chainOf(30, small, 9)), 31)), want)
	}
}

func TestSquaresOfRises(t *testing.T) {
	for _, c := range []struct {
		rises []impl.Rise
		want  []float32
		sum   float32
	}{
		{[]impl.Rise{rise(0, 1, 5, 1)}, []float32{0, 5}, 0}, {[]impl.Rise{rise(1, 0, 5, 1)}, []float32{0, -5}, 0}, {[]impl.Rise{rise(0, 1, impl.MaxSmall, 4)}, []float32{0, 1e7}, 0}, {[]impl.Rise{rise(1, 0, impl.MaxSmall, 1)}, []float32{0, -1e7}, 0},
		// Rises told twice, with ways of the same Long and of others.
		{[]impl.Rise{rise(0, 1, 4, 1), rise(0, 1, 6, 1), rise(1, 0, -4, 1), rise(1, 0, -6, 1)}, []float32{0, 5}, 4}, {[]impl.Rise{rise(0, 1, 4, 4), rise(0, 1, 8, 4), rise(1, 0, -6, 2)}, []float32{0, 6}, 2},
		{[]impl.Rise{rise(0, 1, 8, 4), rise(0, 1, 4, 4), rise(0, 1, 14, 2)}, []float32{0, 10}, 18},
		// Two marks that are not known.
		{[]impl.Rise{rise(0, 1, 3, 1), rise(0, 1, 3, 1), rise(1, 2, 4, 1), rise(1, 2, 4, 1)}, []float32{0, 3, 7}, 0}, {[]impl.Rise{rise(0, 1, 2, 1), rise(0, 1, 4, 1), rise(2, 1, -4, 1), rise(1, 2, 4, 1)}, []float32{0, 3, 7}, 2},
		{[]impl.Rise{rise(1, 0, -2, 1), rise(1, 0, -4, 1), rise(2, 1, -3, 1), rise(1, 2, 5, 1)}, []float32{0, 3, 7}, 4}, {[]impl.Rise{rise(0, 1, 5, 4), rise(0, 2, 6, 16)}, []float32{0, 5, 6}, 0},
		{[]impl.Rise{rise(0, 1, 0, 1), rise(0, 2, 0, 1)}, []float32{0, 0, 0}, 0},
	} {
		count := int64(len(c.want))
		saidTo(t, fmt.Sprintf("RiseSquares %v", c.rises), saidTwo(impl.RiseSquares(c.rises, count)), c.want, c.sum)
		// A mark more has no rise.
		failing(t, fmt.Sprintf("RiseSquares %v with a mark more", c.rises), saidTwo(impl.RiseSquares(c.rises, count+1)))
	}
	for _, c := range []struct {
		rises []impl.Rise
		count int64
	}{{nil, 1}, {nil, 2}, {nil, 0}, {[]impl.Rise{rise(0, 1, 5, 1)}, 1}, {[]impl.Rise{rise(1, 2, 5, 1)}, 3}, {[]impl.Rise{rise(1, 2, 5, 1), rise(2, 1, 5, 1), rise(1, 2, 5, 1), rise(2, 1, 5, 1)}, 3}, {[]impl.Rise{rise(0, 1, 5, 1), rise(2, 3, 5, 1)}, 4}, {[]impl.Rise{rise(0, 2, 5, 1)}, 3}} {
		failing(t, fmt.Sprintf("RiseSquares %v of %d marks", c.rises, c.count), saidTwo(impl.RiseSquares(c.rises, c.count)))
	}
	for count := 2; count <= 14; count++ {
		heights, sum, ok := impl.RiseSquares(chainOf(count-1, 100, 7), int64(count))
		if want := count <= 11; ok != want {
			t.Errorf("RiseSquares of %d marks: got %v", count, ok)
		}
		for i, height := range heights {
			if math.Abs(float64(height)-float64(100*i)) > 0.01 || sum > 1e-3 {
				t.Errorf("RiseSquares of %d marks: got %v, %v", count, heights, sum)
			}
		}
	}
}

// The heights that miss least are such ones: to move one of them makes the sum no less, and the sum is theirs, nearly.
func TestLeastSquaresAreLeast(t *testing.T) {
	for seed := range 80 {
		count := int64(2 + seed%10)
		rises := chainOf(int(count)-1, 7, 3)
		for i, r := range roundOf(seed, 0, 1) {
			rises = append(rises, r, rise(int64(i)%count, (int64(i)+1)%count, r.Small/9, r.Long))
		}
		heights, sum, ok := impl.RiseSquares(rises, count)
		if !ok || heights[0] != 0 || len(heights) != int(count) {
			t.Fatalf("RiseSquares %v: got %v, %v", rises, heights, ok)
		}
		least := sumOfSquares(rises, heights)
		if math.Abs(least-float64(sum)) > 1e-3*(1+least) {
			t.Errorf("RiseSquares %v: the sum is %v, not %v", rises, least, sum)
		}
		for i := 1; i < len(heights); i++ {
			for _, by := range []float32{1, -1} {
				moved := append([]float32{}, heights...)
				moved[i] += by
				if sumOfSquares(rises, moved) < least {
					t.Errorf("RiseSquares %v: %v is better than %v", rises, moved, heights)
				}
			}
		}
	}
}

func sumOfSquares(rises []impl.Rise, heights []float32) float64 {
	sum := 0.0
	for _, r := range rises {
		d := float64(r.Small) - float64(heights[r.To]) + float64(heights[r.From])
		sum += d * d / float64(r.Long)
	}
	return sum
}

func TestEvenSquares(t *testing.T) {
	inf := infinite()
	for _, c := range []struct{ square, b, want []float32 }{
		{[]float32{4, 0, 0, 9}, []float32{8, 18}, []float32{2, 2}}, {[]float32{4}, []float32{-8}, []float32{-2}}, {[]float32{4, 2, 2, 10}, []float32{8, 22}, []float32{1, 2}}, {[]float32{4, 2, -2, 2, 10, 5, -2, 5, 6}, []float32{2, 37, 26}, []float32{1, 2, 3}},
		// What lies above the middle is not taken.
		{[]float32{4, 77, 2, 10}, []float32{8, 22}, []float32{1, 2}}, {[]float32{4, -1, 9, 2, 10, largest(), -2, 5, 6}, []float32{2, 37, 26}, []float32{1, 2, 3}},
		{[]float32{1, 0, 0, 1}, []float32{num(1), minusZero()}, []float32{num(1), minusZero()}}, {[]float32{0x1p-148}, []float32{0x1p-148}, []float32{1}}, {[]float32{0x1p126}, []float32{0x1p127}, []float32{2}},
	} {
		saidTo(t, fmt.Sprintf("SolveEven %v, %v", c.square, c.b), said(impl.SolveEven(c.square, c.b)), c.want)
	}
	for _, c := range []struct{ square, b []float32 }{
		{nil, nil}, {[]float32{1}, nil}, {nil, []float32{1}}, {[]float32{1, 0, 0, 1}, []float32{1}}, {[]float32{1, 0, 0, 1}, []float32{1, 2, 3, 4}}, {[]float32{1}, []float32{1, 2}}, {[]float32{1, 0, 0}, []float32{1, 2}}, {[]float32{1, 0, 0, 1, 0}, []float32{1, 2}}, {[]float32{1, 0}, []float32{1, 2}},
		// No square has a root if a number in its middle is not greater than 0, or not what is left of it.
		{[]float32{0}, []float32{1}}, {[]float32{minusZero()}, []float32{1}}, {[]float32{-1}, []float32{1}}, {[]float32{-num(1)}, []float32{0}}, {[]float32{1, 1, 1, 1}, []float32{1, 1}}, {[]float32{1, 2, 2, 1}, []float32{1, 1}}, {[]float32{1, 0, 0, 0}, []float32{1, 1}}, {[]float32{0, 0, 0, 1}, []float32{1, 1}}, {[]float32{-1, 0, 0, 1}, []float32{1, 1}},
		// Numbers that overflow in a step.
		{[]float32{num(1)}, []float32{1}}, {[]float32{1e-30}, []float32{1e30}}, {[]float32{1e-30, 0, 1e30, 1}, []float32{1, 1}}, {[]float32{1, 0, 1e20, 1}, []float32{1, 1}}, {[]float32{1, 0, 0, num(1)}, []float32{1, 1}}, {[]float32{num(1), 0, 0, 1}, []float32{1, 1}},
		{[]float32{1, inf, 0, 1}, []float32{1, 1}}, {[]float32{1, num(0x7fc00000), 0, 1}, []float32{1, 1}}, {[]float32{1, 0, inf, 1}, []float32{1, 1}}, {[]float32{inf, 0, 0, 1}, []float32{1, 1}}, {[]float32{1, 0, 0, inf}, []float32{1, 1}}, {[]float32{1, 0, 0, num(0x7fc00000)}, []float32{1, 1}}, {[]float32{-inf}, []float32{1}},
		{[]float32{1}, []float32{inf}}, {[]float32{1}, []float32{-inf}}, {[]float32{1}, []float32{num(0x7fc00000)}}, {[]float32{1, 0, 0, 1}, []float32{inf, 1}}, {[]float32{1, 0, 0, 1}, []float32{1, -inf}}, {[]float32{inf}, []float32{inf}},
	} {
		failing(t, fmt.Sprintf("SolveEven %v, %v", c.square, c.b), said(impl.SolveEven(c.square, c.b)))
	}
	for n := range 14 {
		square, b := make([]float32, n*n), make([]float32, n)
		for i := range n {
			square[i*n+i], b[i] = 4, float32(8*i)
		}
		want := make([]float32, n)
		for i := range want {
			want[i] = float32(2 * i)
		}
		got := said(impl.SolveEven(square, b))
		if n >= 1 && n <= 10 {
			saidTo(t, fmt.Sprintf("SolveEven of %d rows", n), got, want)
		} else {
			failing(t, fmt.Sprintf("SolveEven of %d rows", n), got)
		}
	}
}
