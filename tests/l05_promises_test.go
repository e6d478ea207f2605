package tests

import (
	"math"
	"slices"
	"testing"

	"loop.example/g01225/impl"
)

// Promise 5 and guarantee: records of o with r are those of r with o, and so are the sums of their
// squares; the parts of records are conjugates of each other.
func TestRecordsTurnedRound(t *testing.T) {
	n := numbers{95}
	for _, r := range append(ranges, [2]int{-76, -73}, [2]int{59, 62}) {
		for round := range 24 {
			o, ref := n.wave(sides[round%4], r[0], r[1]), n.wave(sides[round%4], r[0], r[1])
			p, code := impl.RecordHologram(o, ref)
			wantRecord(t, ref, o, p, code)
			sums, a, b, code := impl.PartsOfRecord(o, ref)
			wantParts(t, ref, o, sums, b, a, code)
			if code == impl.ErrNone && (a != conjugates(b) || sums.Side != o.Side || a.Side != o.Side) {
				t.Errorf("the parts %v and %v are no conjugates", a, b)
			}
		}
	}
	// It does not hold because nothing is there.
	_, a, b, code := impl.PartsOfRecord(waveOf(1, 1+2i), waveOf(1, 3-4i))
	if a == b || code != impl.ErrNone {
		t.Errorf("PartsOfRecord: %v, %v, %d", a, b, code)
	}
}

// Guarantee: normed pictures have the top 1, and stay the same when they are normed again.
func TestNormedPicturesHaveTheTopOne(t *testing.T) {
	n := numbers{96}
	for _, r := range pictureRanges {
		for round := range 24 {
			p := n.picture(sides[round%4], r[0], r[1])
			p.Levels[n.bits()%uint64(p.Side*p.Side)] = abs(n.next(r[0], r[1]))
			normed, code := impl.NormPicture(p)
			if top, _ := topAndBottom(p); top == 0 {
				wantPicture(t, "NormPicture", normed, code, impl.Picture{}, impl.ErrState)
				continue
			}
			if top, _ := topAndBottom(normed); top != 1 || code != impl.ErrNone {
				t.Errorf("NormPicture(%v) = %v, %d", p, normed, code)
			}
			wantNormed(t, normed, normed, impl.ErrNone)
		}
	}
}

// Guarantee: differences do not depend on the order.
func TestDifferencesTurnedRound(t *testing.T) {
	n := numbers{97}
	for _, r := range pictureRanges {
		for round := range 24 {
			p, q := n.picture(sides[round%4], r[0], r[1]), n.picture(sides[round%4], r[0], r[1])
			x, code := impl.DifferenceOf(p, q)
			wantDifference(t, q, p, x, code)
		}
	}
}

// Guarantee: pictures in steps stay the same in the same steps where q is a power of two of a
// usual size.
func TestPicturesInStepsStay(t *testing.T) {
	n := numbers{98}
	for power := -110; power <= 110; power += 11 {
		q := float32(math.Ldexp(1, power))
		for round := range 24 {
			m := int64(2 + n.bits()%255)
			p := n.picture(sides[round%4], power-3, power+9)
			once, code := impl.InSteps(p, q, m)
			wantNone(t, "InSteps", code)
			wantInSteps(t, once, q, m, once, impl.ErrNone)
			steps, code := impl.StepsOf(p, q, m)
			wantNone(t, "StepsOf", code)
			wantSteps(t, once, q, m, steps, impl.ErrNone)
		}
	}
}

// A picture and its negative add up to t where all levels are small whole numbers.
func TestNegativesAddUp(t *testing.T) {
	n := numbers{99}
	for round := range 24 {
		p := impl.Picture{Side: sides[round%4]}
		for i := range p.Side * p.Side {
			p.Levels[i] = float32(n.bits() % 1000)
		}
		negative, code := impl.NegativeOf(p, 1000)
		wantNone(t, "NegativeOf", code)
		wantAdded(t, p, negative, even(p.Side, 1000), impl.ErrNone)
		wantNegative(t, negative, 1000, p, impl.ErrNone)
	}
}

// results are what many functions return.
type results struct {
	pictures []impl.Picture
	waves    []impl.Wave
	numbers  []float32
	integers []int64
}

// hologramsOf returns what the functions of chapter 5 make of two waves and two pictures.
func hologramsOf(t *testing.T, o, r impl.Wave, p, q impl.Picture) (all results) {
	t.Helper()
	addPicture := func(p impl.Picture, code int64) {
		wantNone(t, "a function of pictures", code)
		all.pictures = append(all.pictures, p)
	}
	addWave := func(w impl.Wave, code int64) {
		wantNone(t, "a function of waves", code)
		all.waves = append(all.waves, w)
	}
	addNumber := func(x float32, code int64) {
		wantNone(t, "a function of numbers", code)
		all.numbers = append(all.numbers, x)
	}
	addPicture(impl.RecordHologram(o, r))
	addWave(impl.LookAt(p, o))
	sums, a, b, code := impl.PartsOfRecord(o, r)
	addPicture(sums, code)
	addWave(a, code)
	addWave(b, code)
	if o.Side > 1 {
		addWave(impl.BlockMean(o))
	}
	addPicture(impl.AddPictures(p, q))
	addPicture(impl.ScalePicture(0.3, p))
	addPicture(impl.NormPicture(p))
	addNumber(impl.ContrastOf(p))
	addNumber(impl.DifferenceOf(p, q))
	addPicture(impl.NegativeOf(p, 100))
	addWave(impl.ThresholdMask(p, 0))
	addWave(impl.ThresholdMask(p, 1.5))
	addPicture(impl.InSteps(p, 0.7, 5))
	addWave(impl.HalftoneOf(p, 2))
	all.integers, code = impl.StepsOf(p, 0.7, 5)
	wantNone(t, "StepsOf", code)
	return all
}

// isSame reports whether all results are equal to others.
func (all results) isSame(other results) bool {
	return slices.Equal(all.pictures, other.pictures) && slices.Equal(all.waves, other.waves) &&
		slices.Equal(all.numbers, other.numbers) && slices.Equal(all.integers, other.integers)
}

// wantOnSide wants waves and pictures of a side whose further cells and levels are 0.
func (all results) wantOnSide(t *testing.T, side int64) {
	t.Helper()
	for _, w := range all.waves {
		if !impl.IsWave(w) || w.Side != side || slices.ContainsFunc(w.Cells[side*side:], func(z complex64) bool { return z != 0 }) {
			t.Errorf("%v is no wave of the side %d", w, side)
		}
	}
	for _, p := range all.pictures {
		if !impl.IsPicture(p) || p.Side != side || slices.ContainsFunc(p.Levels[side*side:], func(x float32) bool { return x != 0 }) {
			t.Errorf("%v is no picture of the side %d", p, side)
		}
	}
}

// Zeros of negative sign, also beyond the side, are zeros, and all further cells and levels of
// what arises are 0.
func TestZerosOfNegativeSignInHolograms(t *testing.T) {
	n := numbers{100}
	for _, side := range sides {
		o, r := waveOf(side, 2-1i), flat(side, 0)
		r.Cells[side*side-1] = 1
		p, q := evenBut(side, 0, side*side-1, 3), n.picture(side, -2, 2)
		want := hologramsOf(t, o, r, p, q)
		got := hologramsOf(t, signed(o), signed(r), signedPicture(p), signedPicture(q))
		if !got.isSame(want) {
			t.Errorf("the side %d with zeros of negative sign: %v; want %v", side, got, want)
		}
		for _, all := range []results{got, want} {
			all.wantOnSide(t, side)
			if len(all.integers) != int(side*side) {
				t.Errorf("%v are not the steps of the side %d", all.integers, side)
			}
		}
	}
}

// Results depend on nothing but the arguments, and a list that is returned goes its own way.
func TestHologramsKeepNothing(t *testing.T) {
	n := numbers{101}
	for _, side := range sides {
		o, r, p, q := n.wave(side, -1, 1), n.wave(side, -1, 1), n.picture(side, -1, 1), n.picture(side, -1, 1)
		p.Levels[0] = 1
		first := hologramsOf(t, o, r, p, q)
		other := hologramsOf(t, r, o, p, even(side, 2))
		if first.isSame(other) {
			t.Errorf("the results of the side %d do not depend on the arguments", side)
		}
		// Something that is not finite leaves nothing behind either.
		wantHalftone(t, even(side, most), most, impl.Wave{}, impl.ErrLimit)
		wantAdded(t, even(side, most), even(side, most), impl.Picture{}, impl.ErrLimit)
		kept := slices.Clone(first.integers)
		steps, _ := impl.StepsOf(p, 0.7, 5)
		whole := steps[:cap(steps)]
		for i := range whole {
			whole[i] = -7
		}
		second := hologramsOf(t, o, r, p, q)
		if !second.isSame(first) || !slices.Equal(first.integers, kept) {
			t.Errorf("the results of the side %d are changed", side)
		}
	}
}
