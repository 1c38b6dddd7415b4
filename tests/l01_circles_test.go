package tests

import (
	"fmt"
	"math"
	"testing"

	"loop.example/g01341/impl"
)

func goldenRows(t *testing.T, what string, rows [][2]uint32, f func(float32) float32) {
	t.Helper()
	for _, row := range rows {
		expect(t, fmt.Sprintf("%s of the bits %08x", what, row[0]), f(num(row[0])), num(row[1]))
	}
}

func TestGoldenNumbers(t *testing.T) {
	goldenRows(t, "SineTurns", goldenSines, impl.SineTurns)
	goldenRows(t, "LogNumber", goldenLogs, impl.LogNumber)
	goldenRows(t, "ExpNumber", goldenExps, impl.ExpNumber)
	for _, row := range goldenAngles {
		y, x := num(row[0]), num(row[1])
		expect(t, fmt.Sprintf("AngleTurns of the bits %08x and %08x", row[0], row[1]), impl.AngleTurns(y, x), num(row[2]))
		expect(t, fmt.Sprintf("AngleOf the bits %08x and %08x", row[1], row[0]), impl.AngleOf(complex(x, y)), num(row[2]))
	}
	for _, row := range goldenPhasors {
		expect(t, fmt.Sprintf("PhasorOf the bits %016x", row.turns), impl.PhasorOf(math.Float64frombits(row.turns)), complex(num(row.real), num(row.imag)))
	}
	for _, row := range goldenTenths {
		succeeds(t, fmt.Sprintf("TenthsOf the bits %08x", row.power), row.tenths)(impl.TenthsOf(num(row.power)))
	}
}

// near reports whether got differs from the exact number by no more than its last bit.
func near(got float32, exact float64) bool {
	return math.Abs(float64(got)-exact) <= 0x1p-23*math.Abs(exact)+0x1p-45
}

func TestCirclesAreRound(t *testing.T) {
	for i := -3000; i <= 3000; i++ {
		x := float32(i) / 997
		sine, cosine := math.Sincos(2 * math.Pi * float64(x))
		if got := impl.SineTurns(x); !near(got, sine) {
			t.Errorf("SineTurns of %v: got %v, want nearly %v", x, got, sine)
		}
		if got := impl.PhasorOf(float64(x)); !near(real(got), cosine) || !near(imag(got), sine) {
			t.Errorf("PhasorOf %v: got %v, want nearly %v", x, got, complex(cosine, sine))
		}
		if got, want := impl.AngleOf(complex(float32(cosine), float32(sine))), math.Atan2(float64(float32(sine)), float64(float32(cosine)))/(2*math.Pi); !near(got, want) {
			t.Errorf("AngleOf the phasor of %v: got %v, want nearly %v", x, got, want)
		}
	}
}

func TestQuartersAreExact(t *testing.T) {
	for i, want := range []complex64{1, complex(0, 1), -1, complex(0, -1)} {
		for _, whole := range []float64{0, 1, -1, -5, 1000} {
			got := impl.PhasorOf(whole + float64(i)/4)
			expect(t, fmt.Sprint("PhasorOf quarters and whole turns ", i, whole), got, complex(real(want)+0, imag(want)+0))
		}
	}
	for i := range 4 {
		want := float32(i) / 4
		if i == 3 {
			want = -0.25
		}
		expect(t, fmt.Sprint("AngleOf the phasor of quarters ", i), impl.AngleOf(impl.PhasorOf(float64(i)/4)), want)
	}
}

func TestPowersAndLogsAreNear(t *testing.T) {
	for i := -8000; i <= 8800; i++ {
		x := float32(i) / 100
		if got, want := impl.ExpNumber(x), math.Exp(float64(x)); !near(got/float32(want), 1) {
			t.Errorf("ExpNumber of %v: got %v, want nearly %v", x, got, want)
		}
		power := impl.ExpNumber(x)
		if got, want := impl.LogNumber(power), math.Log(float64(power)); !near(got, want) {
			t.Errorf("LogNumber of %v: got %v, want nearly %v", power, got, want)
		}
	}
}

func TestTenthsOfRefusesOtherPowers(t *testing.T) {
	for _, bits := range []uint32{0, 1 << 31, 0x80000001, 0xbf800000, 0xff7fffff, 0x7f800000, 0xff800000, 0x7fc00000, 0x7f800001} {
		fails[int64](t, fmt.Sprintf("TenthsOf the bits %08x", bits))(impl.TenthsOf(num(bits)))
	}
	for tenths := int64(-300); tenths <= 300; tenths++ {
		succeeds(t, "TenthsOf a power of ten", tenths)(impl.TenthsOf(float32(math.Pow(10, float64(tenths)/100))))
	}
}
