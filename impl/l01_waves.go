package impl

import (
	"math"
	"strconv"
	"strings"
)

// The error codes of all chapters.
const (
	ErrNone = iota
	ErrInvalid
	ErrRange
	ErrLimit
	ErrNotFound
	ErrState
	ErrSyntax
)

// Limits of chapter 1.
const (
	MaxPlace = 2139095039
	MaxSide  = 8
)

const (
	turnParts    = 64
	quarterParts = turnParts / 4
	maxSlope     = 64
	maxShift     = 64
)

// Wave is described in chapter 1.
type Wave struct {
	Side  int64
	Cells [64]complex64
}

// Picture is described in chapter 1.
type Picture struct {
	Side   int64
	Levels [64]float32
}

// at returns the cell in the row y and the column x.
func (w *Wave) at(y int64, x int64) complex64 { return w.Cells[w.Side*y+x] }

// isFinite reports whether x is a number.
func isFinite(x float32) bool { return math.Abs(float64(x)) <= math.MaxFloat32 }

// isComplex reports whether z is a complex number.
func isComplex(z complex64) bool { return isFinite(real(z)) && isFinite(imag(z)) }

// areComplex reports whether all elements of a list are complex numbers.
func areComplex(list []complex64) bool {
	for _, z := range list {
		if !isComplex(z) {
			return false
		}
	}
	return true
}

// isPowerOfTwo reports whether n is a power of two in 1..limit.
func isPowerOfTwo(n int64, limit int64) bool { return n >= 1 && n <= limit && n&(n-1) == 0 }

// isSide reports whether n is a side.
func isSide(n int64) bool { return isPowerOfTwo(n, MaxSide) }

// isWithin reports whether k is in -limit..limit.
func isWithin(k int64, limit int64) bool { return k >= -limit && k <= limit }

// remainder returns the remainder of k by n that is at least 0.
func remainder(k int64, n int64) int64 {
	rest := k % n
	if rest < 0 {
		rest += n
	}
	return rest
}

// rootOf returns the root of x. The float64 between has more than twice the digits, so rounding
// twice is the same here as rounding once.
func rootOf(x float32) float32 { return float32(math.Sqrt(float64(x))) }

// multiplyComplex returns the product of two complex numbers. Products of two float32 are exact
// as float64, so each part is rounded only where the document says so, fused or not.
func multiplyComplex(p complex64, q complex64) complex64 {
	a, b := float64(real(p)), float64(imag(p))
	c, d := float64(real(q)), float64(imag(q))
	return complex(float32(a*c-b*d), float32(a*d+b*c))
}

// squareOf returns the square of a complex number.
func squareOf(z complex64) float32 {
	a, b := float64(real(z)), float64(imag(z))
	return float32(a*a + b*b)
}

// scaleComplex returns r times a complex number. The conversions keep the products from being
// joined with a sum that follows.
func scaleComplex(r float32, z complex64) complex64 {
	return complex(float32(r*real(z)), float32(r*imag(z)))
}

// divideComplex returns a complex number with both parts divided by r.
func divideComplex(z complex64, r float32) complex64 { return complex(real(z)/r, imag(z)/r) }

// conjugateOf returns the conjugate of a complex number.
func conjugateOf(z complex64) complex64 { return complex(real(z), -imag(z)) }

// multiplyByConjugate returns the product of the conjugate of p and q.
func multiplyByConjugate(p complex64, q complex64) complex64 {
	return multiplyComplex(conjugateOf(p), q)
}

// turnByI returns a complex number turned by i, which is exact.
func turnByI(z complex64) complex64 { return complex(-imag(z), real(z)) }

// PhaseOf returns P(k).
func PhaseOf(k int64) complex64 {
	rest := remainder(k, turnParts)
	phase := phaseInQuarter(rest % quarterParts)
	for range rest / quarterParts {
		phase = turnByI(phase)
	}
	return phase
}

// phaseInQuarter returns P(k) for k in 0..15.
func phaseInQuarter(k int64) complex64 {
	product := complex64(1)
	half := complex64(1i)
	for digit := int64(quarterParts / 2); digit >= 1; digit /= 2 {
		half = halvePhase(half)
		if k&digit != 0 {
			product = multiplyComplex(product, half)
		}
	}
	return product
}

// halvePhase returns P(k) for P(2 k).
func halvePhase(z complex64) complex64 {
	c := rootOf(float32(1+real(z)) / 2)
	s := imag(z) / float32(2*c)
	return complex(c, s)
}

// IsWave reports whether w is a wave.
func IsWave(w Wave) bool {
	if !isSide(w.Side) {
		return false
	}
	rest := w
	for i := range w.Side * w.Side {
		if !isComplex(w.Cells[i]) {
			return false
		}
		rest.Cells[i] = 0
	}
	return rest == Wave{Side: w.Side}
}

// IsPicture reports whether p is a picture.
func IsPicture(p Picture) bool {
	if !isSide(p.Side) {
		return false
	}
	rest := p
	for i := range p.Side * p.Side {
		if !isFinite(p.Levels[i]) || p.Levels[i] < 0 {
			return false
		}
		rest.Levels[i] = 0
	}
	return rest == Picture{Side: p.Side}
}

// checkWaves returns ErrInvalid if one of the values is not a wave, ErrRange if their sides are
// different, and otherwise ErrNone. Callers may give one wave many times; it is looked at once.
func checkWaves(waves ...Wave) int64 {
	known := map[Wave]bool{}
	for _, w := range waves {
		if known[w] {
			continue
		}
		if !IsWave(w) {
			return ErrInvalid
		}
		known[w] = true
	}
	for _, w := range waves {
		if w.Side != waves[0].Side {
			return ErrRange
		}
	}
	return ErrNone
}

// finiteWave returns w and ErrNone, or ErrLimit if one of its cells is not finite.
func finiteWave(w Wave) (Wave, int64) {
	if !areComplex(w.Cells[:]) {
		return Wave{}, ErrLimit
	}
	return w, ErrNone
}

// buildWave returns the wave of the side n with the given cell for each row y and column x, and
// ErrNone, or ErrLimit if one of them is not finite.
func buildWave(n int64, cell func(y int64, x int64) complex64) (Wave, int64) {
	w := Wave{Side: n}
	for y := range n {
		for x := range n {
			w.Cells[n*y+x] = cell(y, x)
		}
	}
	return finiteWave(w)
}

// FlatWave returns the wave of the side n with z in all cells, and ErrNone.
func FlatWave(n int64, z complex64) (Wave, int64) {
	if !isComplex(z) {
		return Wave{}, ErrInvalid
	}
	if !isSide(n) {
		return Wave{}, ErrRange
	}
	return buildWave(n, func(y int64, x int64) complex64 { return z })
}

// PlaneWave returns the plane wave of the side n with the slopes u and v, each in -64..64, and
// ErrNone. (ErrInvalid is not returned.)
func PlaneWave(n int64, u int64, v int64) (Wave, int64) {
	if !isSide(n) || !isWithin(u, maxSlope) || !isWithin(v, maxSlope) {
		return Wave{}, ErrRange
	}
	return buildWave(n, func(y int64, x int64) complex64 {
		return PhaseOf((u*x + v*y) * (turnParts / n))
	})
}

// CellOf returns the cell in the row y and the column x, and ErrNone.
func CellOf(w Wave, y int64, x int64) (complex64, int64) {
	if !IsWave(w) {
		return 0, ErrInvalid
	}
	if y < 0 || y >= w.Side || x < 0 || x >= w.Side {
		return 0, ErrRange
	}
	return w.at(y, x), ErrNone
}

// AddWaves returns the sum, and ErrNone.
func AddWaves(a Wave, b Wave) (Wave, int64) {
	if code := checkWaves(a, b); code != ErrNone {
		return Wave{}, code
	}
	return buildWave(a.Side, func(y int64, x int64) complex64 { return a.at(y, x) + b.at(y, x) })
}

// MultiplyWaves returns the product, and ErrNone.
func MultiplyWaves(a Wave, b Wave) (Wave, int64) {
	if code := checkWaves(a, b); code != ErrNone {
		return Wave{}, code
	}
	return buildWave(a.Side, func(y int64, x int64) complex64 {
		return multiplyComplex(a.at(y, x), b.at(y, x))
	})
}

// ConjugateWave returns the wave of the conjugates, and ErrNone.
func ConjugateWave(w Wave) (Wave, int64) {
	if !IsWave(w) {
		return Wave{}, ErrInvalid
	}
	return buildWave(w.Side, func(y int64, x int64) complex64 { return conjugateOf(w.at(y, x)) })
}

// ScaleWave returns the wave with the products of z and the cells, and ErrNone.
func ScaleWave(z complex64, w Wave) (Wave, int64) {
	if !isComplex(z) || !IsWave(w) {
		return Wave{}, ErrInvalid
	}
	return buildWave(w.Side, func(y int64, x int64) complex64 {
		return multiplyComplex(z, w.at(y, x))
	})
}

// IntensityOf returns the intensity, and ErrNone.
func IntensityOf(w Wave) (Picture, int64) {
	if !IsWave(w) {
		return Picture{}, ErrInvalid
	}
	p := Picture{Side: w.Side}
	for i := range w.Side * w.Side {
		level := squareOf(w.Cells[i])
		if !isFinite(level) {
			return Picture{}, ErrLimit
		}
		p.Levels[i] = level
	}
	return p, ErrNone
}

// EnergyOf returns the energy, and ErrNone.
func EnergyOf(w Wave) (float32, int64) {
	p, code := IntensityOf(w)
	if code != ErrNone {
		return 0, code
	}
	sum := float32(0)
	for i := range w.Side * w.Side {
		sum += p.Levels[i]
	}
	if !isFinite(sum) {
		return 0, ErrLimit
	}
	return sum, ErrNone
}

// InnerOfWaves returns the inner product of a and b, and ErrNone.
func InnerOfWaves(a Wave, b Wave) (complex64, int64) {
	if code := checkWaves(a, b); code != ErrNone {
		return 0, code
	}
	sum := complex64(0)
	for i := range a.Side * a.Side {
		sum += multiplyByConjugate(a.Cells[i], b.Cells[i])
	}
	// A part that is not finite stays so in all further sums.
	if !isComplex(sum) {
		return 0, ErrLimit
	}
	return sum, ErrNone
}

// ShiftWave returns the wave shifted by v rows and u columns, each in -64..64, and ErrNone.
func ShiftWave(w Wave, v int64, u int64) (Wave, int64) {
	if !IsWave(w) {
		return Wave{}, ErrInvalid
	}
	if !isWithin(v, maxShift) || !isWithin(u, maxShift) {
		return Wave{}, ErrRange
	}
	return buildWave(w.Side, func(y int64, x int64) complex64 {
		return w.at(remainder(y-v, w.Side), remainder(x-u, w.Side))
	})
}

// placeOf returns the place of a number: its bits without the sign are the place of its absolute
// value, and they are 0 for both zeros.
func placeOf(x float32) int64 {
	place := int64(math.Float32bits(x) & math.MaxInt32)
	if x < 0 {
		return -place
	}
	return place
}

// numberAt returns the number with a place in -MaxPlace..MaxPlace.
func numberAt(place int64) float32 {
	if place < 0 {
		return -math.Float32frombits(uint32(-place))
	}
	return math.Float32frombits(uint32(place))
}

// complexText returns the text of a complex number.
func complexText(z complex64) string {
	return strconv.FormatInt(placeOf(real(z)), 16) + "," + strconv.FormatInt(placeOf(imag(z)), 16)
}

// WaveText returns the text of w, and ErrNone.
func WaveText(w Wave) (string, int64) {
	if !IsWave(w) {
		return "", ErrInvalid
	}
	texts := make([]string, w.Side*w.Side)
	for i := range texts {
		texts[i] = complexText(w.Cells[i])
	}
	return strconv.FormatInt(w.Side, 10) + ":" + strings.Join(texts, " "), ErrNone
}

// parseInteger returns the integer that is written as text to a base. Writing it once more
// refuses what no text has: further zeros, a plus, capital digits and the opposite of 0.
func parseInteger(text string, base int) (int64, bool) {
	k, err := strconv.ParseInt(text, base, 64)
	if err != nil || strconv.FormatInt(k, base) != text {
		return 0, false
	}
	return k, true
}

// parseComplex returns the complex number with a text.
func parseComplex(text string) (complex64, bool) {
	left, right, found := strings.Cut(text, ",")
	re, reFound := parseInteger(left, 16)
	im, imFound := parseInteger(right, 16)
	if !found || !reFound || !imFound || !isWithin(re, MaxPlace) || !isWithin(im, MaxPlace) {
		return 0, false
	}
	return complex(numberAt(re), numberAt(im)), true
}

// ParseWave returns the wave with a text, and ErrNone. Errors: ErrSyntax if there is none. (No
// other errors are returned.)
func ParseWave(text string) (Wave, int64) {
	head, body, found := strings.Cut(text, ":")
	side, sideFound := parseInteger(head, 10)
	if !found || !sideFound || !isSide(side) {
		return Wave{}, ErrSyntax
	}
	texts := strings.Split(body, " ")
	if int64(len(texts)) != side*side {
		return Wave{}, ErrSyntax
	}
	w := Wave{Side: side}
	for i, cell := range texts {
		z, ok := parseComplex(cell)
		if !ok {
			return Wave{}, ErrSyntax
		}
		w.Cells[i] = z
	}
	return w, ErrNone
}
