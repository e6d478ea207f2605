package tests

import (
	"math"
	"testing"

	"loop.example/g01225/impl"
)

// ranges are the sizes of the numbers that are tried: usual ones, and those whose products are
// below the normal numbers, or too great.
var ranges = [][2]int{{-3, 3}, {-30, 30}, {-80, -60}, {-149, -120}, {60, 66}, {120, 127}}

// expected returns a wave with its code, which tells whether all of its cells are finite.
func expected(w impl.Wave) (impl.Wave, int64) {
	for _, z := range w.Cells {
		if math.IsInf(float64(real(z)), 0) || math.IsInf(float64(imag(z)), 0) {
			return impl.Wave{}, impl.ErrLimit
		}
	}
	return w, impl.ErrNone
}

func TestAddWaves(t *testing.T) {
	n := numbers{10}
	for _, r := range ranges {
		for round := range 12 {
			side := sides[round%4]
			a, b := n.wave(side, r[0], r[1]), n.wave(side, r[0], r[1])
			want := impl.Wave{Side: side}
			for i := range side * side {
				want.Cells[i] = exactComplexSum(a.Cells[i], b.Cells[i])
			}
			want, wantCode := expected(want)
			s, code := impl.AddWaves(a, b)
			wantWave(t, "AddWaves", s, code, want, wantCode)
		}
	}
}

func TestSumsOfCells(t *testing.T) {
	const step = 1.0 / (1 << 23) // from 1 to the next number
	for _, c := range []struct{ a, b, want complex64 }{
		{1, step / 2, 1},
		{1 + step, step / 2, 1 + 2*step},
		{1i, complex(0, step*0.75), complex(0, 1+step)},
		{-1, -step / 2, -1},
		{complex(least, -least), complex(least, -least), complex(2*least, -2*least)},
		{complex(1e-38, 0), complex(-1.00001e-38, 0), complex(float32(1e-38)-float32(1.00001e-38), 0)},
		{most, 1, most},
		{most, complex(0, most), complex(most, most)},
		{most, float32Below(1 << 103), most},
	} {
		s, code := impl.AddWaves(waveOf(1, c.a), waveOf(1, c.b))
		wantWave(t, "AddWaves", s, code, waveOf(1, c.want), impl.ErrNone)
	}
	for _, b := range []complex64{1 << 103, most} {
		for _, turn := range []complex64{1, -1, 1i, -1i} {
			s, code := impl.AddWaves(waveOf(2, 0, 0, 0, most*turn), waveOf(2, 0, 0, 0, b*turn))
			wantNoWave(t, "AddWaves of great cells", s, code, impl.ErrLimit)
		}
	}
}

// float32Below returns the number before x, as a complex number.
func float32Below(x float32) complex64 { return complex(math.Nextafter32(x, 0), 0) }

func TestMultiplyWaves(t *testing.T) {
	n := numbers{11}
	for _, r := range ranges {
		for round := range 12 {
			side := sides[round%4]
			a, b := n.wave(side, r[0], r[1]), n.wave(side, r[0], r[1])
			want := impl.Wave{Side: side}
			for i := range side * side {
				want.Cells[i] = exactProduct(a.Cells[i], b.Cells[i])
			}
			want, wantCode := expected(want)
			p, code := impl.MultiplyWaves(a, b)
			wantWave(t, "MultiplyWaves", p, code, want, wantCode)
			turned, code := impl.MultiplyWaves(b, a)
			wantWave(t, "MultiplyWaves turned round", turned, code, want, wantCode)
			scaled, code := impl.ScaleWave(b.Cells[0], flat(side, a.Cells[0]))
			want, wantCode = expected(flat(side, exactProduct(b.Cells[0], a.Cells[0])))
			wantWave(t, "ScaleWave", scaled, code, want, wantCode)
		}
	}
}

// products are those in which it matters how often and when they are rounded.
var products = []struct{ a, b, want complex64 }{
	// 97 * 172961 is 2^24 + 1, just between two numbers. What is added is lost in the float64.
	{complex(97, 0x1p-60), complex(0x1p-60, 172961), complex(-172961*0x1p-60+97*0x1p-60, 1<<24)},
	// With somewhat more, the float64 is above the middle.
	{complex(97, 0x1p-10), complex(0x1p-10, 172961), complex(-172961*0x1p-10+97*0x1p-10, 1<<24+2)},
	// Rounded alone, the product of the real parts would be 1.
	{complex(1+0x1p-23, 1), complex(1-0x1p-23, 1), complex(-0x1p-46, 2)},
	// The product of the real parts alone would be too great.
	{complex(261*0x1p56, 115*0x1p56), complex(261*0x1p56, 115*0x1p56), complex(54896*0x1p112, 60030*0x1p112)},
	{complex(most, most), complex(most, -most), complex(inf, 0)},
	{complex(0x1p100, 0x1p100), complex(0x1p100, 0x1p100), complex(0, inf)},
	{complex(0x1p127, 0x1p127), complex(1, 1), complex(0, inf)},
	{complex(0x1p100, 0x1p100), complex(0x1p-100, 0x1p-100), complex(0, 2)},
	// Below the least number: the middle becomes 0, more becomes the least number.
	{0x1p-75, 0x1p-75, 0},
	{0x1p-75, 0x1.000002p-75, least},
	{complex(0, 0x1.8p-75), complex(0, 0x1p-74), complex(-2*least, 0)},
	{0x1.000002p-126, 0.5, 0x1p-127},
	{0x1.000006p-126, 0.5, 0x1.000004p-127 + least},
	{most, 1 + 0x1p-23, complex(inf, 0)},
	{1i, 1i, -1},
	{1i, complex(3, -4), complex(4, 3)},
}

func TestProductsOfCells(t *testing.T) {
	for _, c := range products {
		want, wantCode := expected(waveOf(1, c.want))
		p, code := impl.MultiplyWaves(waveOf(1, c.a), waveOf(1, c.b))
		wantWave(t, "MultiplyWaves", p, code, want, wantCode)
		p, code = impl.ScaleWave(c.a, waveOf(1, c.b))
		wantWave(t, "ScaleWave", p, code, want, wantCode)
		if exact := exactProduct(c.a, c.b); exact != c.want {
			t.Errorf("%v times %v is %v", c.a, c.b, exact)
		}
	}
}

func TestConjugateWave(t *testing.T) {
	n := numbers{12}
	for _, side := range sides {
		w := n.wave(side, -149, 127)
		want := impl.Wave{Side: side}
		for i, z := range w.Cells {
			want.Cells[i] = complex(real(z), -imag(z))
		}
		c, code := impl.ConjugateWave(w)
		wantWave(t, "ConjugateWave", c, code, want, impl.ErrNone)
	}
	for _, w := range noWaves() {
		c, code := impl.ConjugateWave(w)
		wantNoWave(t, "ConjugateWave of no wave", c, code, impl.ErrInvalid)
	}
}

// Products go along with conjugates.
func TestProductsOfConjugates(t *testing.T) {
	n := numbers{13}
	for _, side := range sides {
		a, b := n.wave(side, -30, 30), n.wave(side, -30, 30)
		p, _ := impl.MultiplyWaves(a, b)
		want, code := impl.ConjugateWave(p)
		if code != impl.ErrNone {
			t.Fatalf("ConjugateWave: code %d", code)
		}
		ca, _ := impl.ConjugateWave(a)
		cb, _ := impl.ConjugateWave(b)
		got, code := impl.MultiplyWaves(ca, cb)
		wantWave(t, "MultiplyWaves of conjugates", got, code, want, impl.ErrNone)
	}
}

func TestIntensityAndEnergy(t *testing.T) {
	n := numbers{14}
	for _, r := range ranges {
		for round := range 12 {
			side := sides[round%4]
			w := n.wave(side, r[0], r[1])
			want, sum := impl.Picture{Side: side}, float32(0)
			for i := range side * side {
				want.Levels[i] = exactSquare(w.Cells[i])
				if want.Levels[i] > most {
					want, sum = impl.Picture{}, inf
					break
				}
				sum = exactSum(sum, want.Levels[i])
			}
			wantIntensity(t, w, want)
			wantEnergy(t, w, sum)
		}
	}
}

// wantIntensity compares the intensity of w with a picture; the zero value means ErrLimit.
func wantIntensity(t *testing.T, w impl.Wave, want impl.Picture) {
	t.Helper()
	wantCode := int64(impl.ErrNone)
	if want.Side == 0 {
		wantCode = impl.ErrLimit
	}
	if p, code := impl.IntensityOf(w); p != want || code != wantCode {
		t.Errorf("IntensityOf(%v) = %v, %d; want %v", w, p, code, want)
	}
}

// wantEnergy compares the energy of w with a number; infinity means ErrLimit.
func wantEnergy(t *testing.T, w impl.Wave, want float32) {
	t.Helper()
	wantCode := int64(impl.ErrNone)
	if want > most {
		want, wantCode = 0, impl.ErrLimit
	}
	if x, code := impl.EnergyOf(w); x != want || code != wantCode {
		t.Errorf("EnergyOf(%v) = %v, %d; want %v, %d", w, x, code, want, wantCode)
	}
}

func TestSquaresOfCells(t *testing.T) {
	for _, c := range []struct {
		z    complex64
		want float32
	}{
		{complex(3, -4), 25}, {complex(-1, 0), 1}, {least, 0}, {complex(0x1p-75, 0), 0}, {complex(0x1p-75, 0x1p-75), least},
		{complex(4097, 0), 1<<24 + 8192}, {complex(4097, 1), 1<<24 + 8194}, {complex(0, 0x1.fffffep63), 0x1.fffffcp127},
		{complex(1+0x1p-12, 0x1p-27), 1 + 0x1p-11}, // what is added to the middle is lost in the float64
		{complex(1+0x1p-12, 0x1p-13), 1 + 0x1p-11 + 0x1p-23},
		{complex(0x1.fffffep63, 0x1p52), most},
		{complex(0x1.fffffep63, 0x1.3p52), most},
	} {
		if exact := exactSquare(c.z); exact != c.want {
			t.Errorf("the square of %v is %v, not %v", c.z, exact, c.want)
		}
		wantIntensity(t, waveOf(1, c.z), pictureOf(1, c.want))
		wantEnergy(t, waveOf(1, c.z), c.want)
	}
	for _, z := range []complex64{0x1p64, complex(0, -0x1p64), complex(0x1.fffffep63, 0x1.4p52), complex(most, most)} {
		wantIntensity(t, waveOf(2, 0, 0, 0, z), impl.Picture{})
		wantEnergy(t, waveOf(2, 0, 0, 0, z), inf)
	}
}

func TestOrderOfEnergy(t *testing.T) {
	// Small squares are lost behind a great one, not before it.
	wantEnergy(t, waveOf(2, 4096, 1, 1, 1), 1<<24)
	wantEnergy(t, waveOf(2, 1, 1, 1, 4096), 1<<24+4)
	wantEnergy(t, waveOf(2, 1, 4096, 1, 1), 1<<24)
	wantEnergy(t, flat(2, 0x1p63), inf)
	wantEnergy(t, flat(8, 0x1p60), 0x1p126)
	wantEnergy(t, waveOf(2, 0x1p63, 0x1p63, 0x1p63), 0x1.8p127)
	wantIntensity(t, flat(2, 0x1p63), pictureOf(2, 0x1p126, 0x1p126, 0x1p126, 0x1p126))
}

func TestIntensityErrors(t *testing.T) {
	for _, w := range noWaves() {
		if p, code := impl.IntensityOf(w); p != (impl.Picture{}) || code != impl.ErrInvalid {
			t.Errorf("IntensityOf(%v) = %v, %d", w, p, code)
		}
		if x, code := impl.EnergyOf(w); x != 0 || code != impl.ErrInvalid {
			t.Errorf("EnergyOf(%v) = %v, %d", w, x, code)
		}
	}
}

func TestInnerOfWaves(t *testing.T) {
	n := numbers{15}
	for _, r := range ranges {
		for round := range 12 {
			side := sides[round%4]
			a, b := n.wave(side, r[0], r[1]), n.wave(side, r[0], r[1])
			want, wantCode := complex64(0), int64(impl.ErrNone)
			for i := range side * side {
				conjugate := complex(real(a.Cells[i]), -imag(a.Cells[i]))
				product, limit := expected(waveOf(1, exactProduct(conjugate, b.Cells[i])))
				if limit == impl.ErrNone {
					product, limit = expected(waveOf(1, exactComplexSum(want, product.Cells[0])))
				}
				if want = product.Cells[0]; limit != impl.ErrNone {
					wantCode = limit
					break
				}
			}
			wantInner(t, a, b, want, wantCode)
		}
	}
}

// wantInner compares the inner product of a and b with a complex number and a code.
func wantInner(t *testing.T, a, b impl.Wave, want complex64, wantCode int64) {
	t.Helper()
	if z, code := impl.InnerOfWaves(a, b); z != want || code != wantCode {
		t.Errorf("InnerOfWaves(%v, %v) = %v, %d; want %v, %d", a, b, z, code, want, wantCode)
	}
}

func TestOrderOfInnerProduct(t *testing.T) {
	wantInner(t, waveOf(1, 1i), waveOf(1, 1), -1i, impl.ErrNone)
	wantInner(t, waveOf(1, 1), waveOf(1, 1i), 1i, impl.ErrNone)
	wantInner(t, waveOf(2, 1<<24, 1, 1, 1), flat(2, 1), 1<<24, impl.ErrNone)
	wantInner(t, waveOf(2, 1, 1, 1, 1<<24), flat(2, 1), 1<<24+4, impl.ErrNone)
	wantInner(t, waveOf(2, 1, 1<<24, -1<<24, 1), flat(2, 1i), 1i, impl.ErrNone)
	// What is too great between stays so, though a sum in another order is finite.
	wantInner(t, waveOf(2, most, most, -most, -most), flat(2, 1), 0, impl.ErrLimit)
	wantInner(t, waveOf(2, most, -most, most, -most), flat(2, 1), 0, impl.ErrNone)
	wantInner(t, waveOf(2, most, -most), waveOf(2, 2, 2), 0, impl.ErrLimit)
	wantInner(t, waveOf(2, 1, 0, 1), waveOf(2, complex(0, most), 0, complex(0, most)), 0, impl.ErrLimit)
}

func TestInnerOfWavesErrors(t *testing.T) {
	wantInner(t, flat(1, 1), flat(2, 1), 0, impl.ErrRange)
	wantInner(t, flat(8, most), flat(4, most), 0, impl.ErrRange)
	for _, bad := range noWaves() {
		wantInner(t, bad, flat(2, 1), 0, impl.ErrInvalid)
		wantInner(t, flat(8, 1), bad, 0, impl.ErrInvalid)
		wantInner(t, bad, bad, 0, impl.ErrInvalid)
	}
}

type pairFunction = func(impl.Wave, impl.Wave) (impl.Wave, int64)

// wantPairErrors checks the errors of a function of two waves, whose results are not finite for
// great cells: no wave comes before different sides, and these before what is not finite.
func wantPairErrors(t *testing.T, name string, f pairFunction) {
	t.Helper()
	for _, bad := range noWaves() {
		for _, pair := range [][2]impl.Wave{{bad, flat(4, most)}, {flat(4, most), bad}, {bad, bad}} {
			w, code := f(pair[0], pair[1])
			wantNoWave(t, name+" of no wave", w, code, impl.ErrInvalid)
		}
	}
	for _, a := range sides {
		for _, b := range sides {
			if a != b {
				w, code := f(flat(a, most), flat(b, most))
				wantNoWave(t, name+" of different sides", w, code, impl.ErrRange)
			}
		}
	}
	w, code := f(flat(4, most), flat(4, most))
	wantNoWave(t, name+" of great cells", w, code, impl.ErrLimit)
}

func TestErrorsOfPairs(t *testing.T) {
	wantPairErrors(t, "AddWaves", impl.AddWaves)
	wantPairErrors(t, "MultiplyWaves", impl.MultiplyWaves)
}

func TestScaleWaveErrors(t *testing.T) {
	for _, z := range []complex64{complex(nan, 0), complex(0, nan), complex(inf, 0), complex(0, -inf)} {
		w, code := impl.ScaleWave(z, flat(2, 0))
		wantNoWave(t, "ScaleWave by no complex number", w, code, impl.ErrInvalid)
	}
	for _, bad := range noWaves() {
		w, code := impl.ScaleWave(1, bad)
		wantNoWave(t, "ScaleWave of no wave", w, code, impl.ErrInvalid)
	}
	w, code := impl.ScaleWave(2, waveOf(2, 0, 0, 0, complex(0, most)))
	wantNoWave(t, "ScaleWave of great cells", w, code, impl.ErrLimit)
}
