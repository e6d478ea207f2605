package tests

import (
	"math"
	"slices"
	"testing"

	"loop.example/g01225/impl"
)

// wantPart compares the nearest part of z with a part and a code.
func wantPart(t *testing.T, z complex64, want, wantCode int64) {
	t.Helper()
	if wantCode != impl.ErrNone {
		want = 0
	}
	if k, code := impl.NearestPart(z); k != want || code != wantCode {
		t.Errorf("NearestPart(%v) = %d, %d; want %d, %d", z, k, code, want, wantCode)
	}
}

// wantExactPart compares the nearest part of z, which is not 0, with what exact fractions tell,
// and returns this and the code.
func wantExactPart(t *testing.T, z complex64) (int64, int64) {
	t.Helper()
	c := calculation{}
	k := c.nearest(z)
	wantPart(t, z, k, c.code())
	return k, c.code()
}

// wantMap compares a list that a function returns with a list and a code.
func wantMap(t *testing.T, name string, list []int64, code int64, want []int64, wantCode int64) {
	t.Helper()
	if wantCode != impl.ErrNone {
		want = nil
	}
	if !slices.Equal(list, want) || code != wantCode {
		t.Errorf("%s = %v, %d; want %v, %d", name, list, code, want, wantCode)
	}
}

// wantPhaseMap compares the phase map of a wave with a list and a code.
func wantPhaseMap(t *testing.T, w impl.Wave, want []int64, wantCode int64) {
	t.Helper()
	list, code := impl.PhaseMap(w)
	wantMap(t, "PhaseMap", list, code, want, wantCode)
}

// noComplex are no complex numbers.
var noComplex = []complex64{
	complex(nan, 0), complex(0, nan), complex(nan, nan), complex(inf, 0), complex(-inf, 1), complex(0, inf),
	complex(1, -inf), complex(inf, inf), complex(inf, nan), complex(nan, -inf), complex(most, nan), complex(inf, most),
}

func TestConstantsOfFringes(t *testing.T) {
	if impl.Parts != 64 || impl.MaxHeight != 100000 {
		t.Errorf("Parts = %d, MaxHeight = %d", impl.Parts, impl.MaxHeight)
	}
}

func TestNearestPartByHand(t *testing.T) {
	wantPart(t, 2i, 16, impl.ErrNone)
	for _, size := range []float32{0x1p-100, 0x1p-126, 0.75, 1, 3, 1e9, 0x1p126} {
		wantPart(t, complex(size, 0), 0, impl.ErrNone)
		wantPart(t, complex(0, size), 16, impl.ErrNone)
		wantPart(t, complex(-size, 0), 32, impl.ErrNone)
		wantPart(t, complex(0, -size), 48, impl.ErrNone)
		wantPart(t, complex(size, size), 8, impl.ErrNone)
		wantPart(t, complex(-size, size), 24, impl.ErrNone)
		wantPart(t, complex(-size, -size), 40, impl.ErrNone)
		wantPart(t, complex(size, -size), 56, impl.ErrNone)
	}
	// Zeros of negative sign beside another part do not matter.
	wantPart(t, complex(zeroBelow, 2), 16, impl.ErrNone)
	wantPart(t, complex(2, zeroBelow), 0, impl.ErrNone)
	wantPart(t, complex(-2, zeroBelow), 32, impl.ErrNone)
	wantPart(t, complex(zeroBelow, -2), 48, impl.ErrNone)
}

func TestNearestPart(t *testing.T) {
	n, codes := numbers{300}, map[int64]int{}
	for _, r := range append(ranges, [2]int{-149, -140}, [2]int{-149, 127}, [2]int{127, 127}) {
		for range 30 {
			_, code := wantExactPart(t, complex(n.next(r[0], r[1]), n.next(r[0], r[1])))
			codes[code]++
		}
	}
	if codes[impl.ErrNone] < 200 || codes[impl.ErrLimit] < 10 {
		t.Errorf("codes of nearest parts: %v", codes)
	}
}

// Each phase, and each number near it, is nearest to its own part, but for the smallest sizes.
func TestNearestPartsOfPhases(t *testing.T) {
	for k, phase := range phases {
		for _, size := range []float32{1, 0x1p-100, 0x1p126, 0.3, 7, 1e20} {
			z := complex(size*real(phase), size*imag(phase))
			wantPart(t, z, int64(k), impl.ErrNone)
			wantPart(t, z+complex(size*0.03, 0), int64(k), impl.ErrNone)
			wantPart(t, z-complex(0, size*0.03), int64(k), impl.ErrNone)
		}
	}
}

// neighbour returns the number that is a number of places away from x.
func neighbour(x float32, places int) float32 {
	for range places {
		x = math.Nextafter32(x, inf)
	}
	for range -places {
		x = math.Nextafter32(x, -inf)
	}
	return x
}

// At the border between two nearest parts the rounded products can be equal, and the least part is
// the nearest one; a little farther on either side there is one of them alone.
func TestBordersOfNearestParts(t *testing.T) {
	withTies := 0
	for k := range int64(64) {
		next, ties, found := (k+1)%64, 0, map[int64]bool{}
		for _, z := range aroundBorder(k, next) {
			part, _ := wantExactPart(t, z)
			found[part] = true
			if isTie(z, k, next) {
				ties++
				wantPart(t, z, min(k, next), impl.ErrNone)
			}
		}
		if len(found) != 2 || !found[k] || !found[next] {
			t.Errorf("the border from %d to %d has the parts %v", k, next, found)
		}
		if ties > 0 {
			withTies++
		}
	}
	if withTies < 40 {
		t.Errorf("only %d borders have ties", withTies)
	}
}

// aroundBorder returns complex numbers on both sides of the border between two parts. It holds the
// part that is greater in size, and moves the other one.
func aroundBorder(k, next int64) []complex64 {
	a, b := phases[k], phases[next]
	turn := func(z complex64) complex64 { return z }
	if sum := a + b; abs(real(sum)) < abs(imag(sum)) {
		turn = func(z complex64) complex64 { return complex(imag(z), real(z)) }
		a, b = turn(a), turn(b)
	}
	held := (real(a) + real(b)) / 2
	low, high := held*imag(a)/real(a), held*imag(b)/real(b)
	for middle := low/2 + high/2; middle != low && middle != high; middle = low/2 + high/2 {
		c := calculation{}
		if c.nearest(turn(complex(held, middle))) == k {
			low = middle
		} else {
			high = middle
		}
	}
	var list []complex64
	for places := -8; places <= 8; places++ {
		list = append(list, turn(complex(held, neighbour(low, places))))
	}
	return list
}

// isTie reports whether the rounded products for two parts are equal, though the exact ones may
// be different.
func isTie(z complex64, k, next int64) bool {
	c := calculation{}
	a := c.product(z, complex(real(phases[k]), -imag(phases[k])))
	b := c.product(z, complex(real(phases[next]), -imag(phases[next])))
	return real(a) == real(b)
}

// The smallest numbers have the products of many parts in common, and the least part counts.
func TestNearestPartsOfSmallNumbers(t *testing.T) {
	wantPart(t, complex(least, 0), 0, impl.ErrNone)
	wantPart(t, complex(-least, 0), 22, impl.ErrNone)
	wantPart(t, complex(0, least), 6, impl.ErrNone)
	wantPart(t, complex(0, -least), 38, impl.ErrNone)
	wantPart(t, complex(least, least), 0, impl.ErrNone)
	wantPart(t, complex(0, 2*least), 9, impl.ErrNone)
	for a := -6; a <= 6; a++ {
		for b := -6; b <= 6; b++ {
			if a != 0 || b != 0 {
				wantExactPart(t, complex(float32(a)*least, float32(b)*least))
			}
		}
	}
	for _, x := range []float32{least, -least, 0x1p-140, 0x1p-127, -0x1.fffffcp-127, 0x1p-126, -0x1p-126} {
		for _, y := range []float32{least, -least, 0, 0x1p-141, 0x1p-126, -0x1p-126, 1, -1, most, -most} {
			wantExactPart(t, complex(x, y))
			wantExactPart(t, complex(y, x))
		}
	}
}

// What is not finite for one part is ErrLimit, even if it is not the greatest.
func TestNearestPartsOfGreatNumbers(t *testing.T) {
	for k, z := range []complex64{complex(most, 0), complex(0, most), complex(-most, 0), complex(0, -most)} {
		wantPart(t, z, 16*int64(k), impl.ErrNone)
		wantPart(t, z+complex(imag(z)*0x1p-10, real(z)*0x1p-10), 16*int64(k), impl.ErrNone)
	}
	for _, x := range []float32{most, -most} {
		for _, y := range []float32{most, -most, most / 2, -most / 2, 0x1p126, -0x1p125} {
			wantPart(t, complex(x, y), 0, impl.ErrLimit)
			wantPart(t, complex(y, x), 0, impl.ErrLimit)
		}
	}
	wantPart(t, complex(0x1.6bp127, -0x1.6bp127), 0, impl.ErrLimit)
	wantPart(t, complex(0x1.6ap127, -0x1.6ap127), 56, impl.ErrNone)
	wantPart(t, complex(-0x1p127, 0x1p127), 24, impl.ErrNone)
	// From one number on the products of the next part are too great.
	for _, turn := range []complex64{1, 1i, -1, -1i} {
		low, high := float32(0), float32(most)
		for math.Nextafter32(low, most) < high {
			y := low/2 + high/2
			if _, code := impl.NearestPart(complex(most, y) * turn); code == impl.ErrNone {
				low = y
			} else {
				high = y
			}
		}
		for places := -2; places <= 2; places++ {
			_, code := wantExactPart(t, complex(most, neighbour(low, places))*turn)
			if (code == impl.ErrLimit) != (places > 0) {
				t.Errorf("%d places from %v: the code %d", places, low, code)
			}
		}
	}
}

func TestErrorsOfNearestPart(t *testing.T) {
	for _, z := range noComplex {
		wantPart(t, z, 0, impl.ErrInvalid)
	}
	for _, z := range []complex64{0, minusZero, complex(zeroBelow, 0), complex(0, zeroBelow)} {
		wantPart(t, z, 0, impl.ErrState)
	}
}

func TestPhaseMap(t *testing.T) {
	n, codes := numbers{301}, map[int64]int{}
	for _, r := range append(ranges, [2]int{-149, -145}, [2]int{127, 127}) {
		for _, side := range sides[:3] {
			w := n.wave(side, r[0], r[1])
			w.Cells[n.bits()%uint64(side*side)] = []complex64{0, minusZero}[n.bits()&1]
			c := calculation{}
			wantPhaseMap(t, w, c.parts(w.Cells[:side*side]), c.code())
			codes[c.code()]++
		}
	}
	if codes[impl.ErrNone] < 15 || codes[impl.ErrLimit] < 2 {
		t.Errorf("codes of phase maps: %v", codes)
	}
	w := n.wave(8, -3, 3)
	c := calculation{}
	wantPhaseMap(t, w, c.parts(w.Cells[:]), impl.ErrNone)
}

func TestPhaseMapsByHand(t *testing.T) {
	wantPhaseMap(t, waveOf(2, 1, 2i, 0, -3-3i), []int64{0, 16, 0, 40}, impl.ErrNone)
	wantPhaseMap(t, waveOf(2, minusZero, complex(0, -least), complex(-least, 0), complex(-most, 0)), []int64{0, 38, 22, 32}, impl.ErrNone)
	for _, side := range sides {
		cells := int(side * side)
		wantPhaseMap(t, flat(side, 0), make([]int64, cells), impl.ErrNone)
		wantPhaseMap(t, signed(flat(side, 0)), make([]int64, cells), impl.ErrNone)
		wantPhaseMap(t, flat(side, -5i), slices.Repeat([]int64{48}, cells), impl.ErrNone)
		for place := range side * side {
			wantPhaseMap(t, waveBut(side, 0, place, -1+1i), heightsBut(side, 0, place, 24), impl.ErrNone)
			wantPhaseMap(t, waveBut(side, -1, place, 0), heightsBut(side, 32, place, 0), impl.ErrNone)
			wantPhaseMap(t, waveBut(side, 1i, place, complex(most, -most)), nil, impl.ErrLimit)
			wantPhaseMap(t, waveBut(side, 0, place, complex(-0x1.6bp127, 0x1.6bp127)), nil, impl.ErrLimit)
		}
		wantPhaseMap(t, flat(side, complex(-most, -most)), nil, impl.ErrLimit)
		wantPhaseMap(t, flat(side, complex(0, most)), slices.Repeat([]int64{16}, cells), impl.ErrNone)
	}
}

func TestErrorsOfPhaseMap(t *testing.T) {
	for _, bad := range noWaves() {
		wantPhaseMap(t, bad, nil, impl.ErrInvalid)
	}
	for _, side := range sides {
		for _, z := range noComplex {
			for _, place := range []int64{0, side*side - 1} {
				wantPhaseMap(t, waveBut(side, complex(most, most), place, z), nil, impl.ErrInvalid)
			}
		}
		if side < 8 {
			for _, other := range []complex64{least, -1i, complex(nan, 0)} {
				wantPhaseMap(t, waveBut(side, 1, side*side, other), nil, impl.ErrInvalid)
				wantPhaseMap(t, waveBut(side, complex(most, most), 63, other), nil, impl.ErrInvalid)
			}
			beyond := waveBut(side, 1i, side*side, minusZero)
			wantPhaseMap(t, beyond, slices.Repeat([]int64{16}, int(side*side)), impl.ErrNone)
		}
	}
}

// All parts of a phase map are in 0..63.
func TestPartsAreWrapped(t *testing.T) {
	n := numbers{302}
	for round := range 40 {
		w := n.wave(sides[round%4], -149, 100)
		list, code := impl.PhaseMap(w)
		wantNone(t, "PhaseMap", code)
		for i, k := range list {
			if k < 0 || k > 63 {
				t.Errorf("the part %d of %v", k, w.Cells[i])
			}
			wantPart(t, w.Cells[i], k, impl.ErrNone)
		}
	}
}
