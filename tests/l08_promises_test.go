package tests

import (
	"slices"
	"testing"

	"loop.example/g01225/impl"
)

// someShares are numbers by which something is mended.
var someShares = []float32{0, zeroBelow, least, 0.3, 0.5, 1}

// Promise 8 and guarantee: coverages add up to m m for each place, and that of two lists behind one
// another is the sum of theirs.
func TestCoveragesAddUp(t *testing.T) {
	n := numbers{390}
	forSides(func(side, m int64) {
		for count := range 21 {
			places := n.places(side, count)
			whole, code := impl.CoverageOf(side, m, places)
			wantNone(t, "CoverageOf", code)
			sum := int64(0)
			for _, k := range whole {
				sum += k
			}
			if sum != int64(count)*m*m {
				t.Errorf("the coverage %v of %d places adds up to %d", whole, count, sum)
			}
			first, _ := impl.CoverageOf(side, m, places[:count/2])
			second, _ := impl.CoverageOf(side, m, places[count/2:])
			for i := range first {
				first[i] += second[i]
			}
			if !slices.Equal(first, whole) {
				t.Errorf("coverages of parts add up to %v instead of %v", first, whole)
			}
		}
	})
}

// Promise 8 and guarantee: mending with 0 changes nothing.
func TestMendingWithNothing(t *testing.T) {
	n, found := numbers{391}, [3]int{}
	for _, r := range scanRanges {
		forSides(func(side, m int64) {
			for _, h := range []float32{0, zeroBelow} {
				o, p, places := n.wave(side, r[0], r[1]), n.wave(m, r[2], r[3]), n.places(side, 3)
				pictures := n.picturesOf(m, 3, -3, 3+int(n.bits()%110))
				got, code := impl.MendObject(o, p, places[0], pictures[0], h)
				if code == impl.ErrNone {
					wantWave(t, "MendObject", got, code, o, impl.ErrNone)
					found[0]++
				}
				got, code = impl.MendProbe(o, p, places[0], pictures[0], h)
				if code == impl.ErrNone {
					wantWave(t, "MendProbe", got, code, p, impl.ErrNone)
					found[1]++
				}
				got, code = impl.RunPasses(o, p, places, pictures, h, int64(n.bits()%9))
				if code == impl.ErrNone {
					wantWave(t, "RunPasses", got, code, o, impl.ErrNone)
					found[2]++
				}
			}
		})
	}
	if slices.Min(found[:]) < 80 {
		t.Errorf("objects and probes that are mended with 0: %v", found)
	}
}

// power returns a power of two, turned by quarters.
func (n *numbers) power() complex64 {
	x := oneIf(true)
	for range n.bits() % 30 {
		x *= 2
	}
	return x * []complex64{0x1p-15, 0x1p-15i, -0x1p-15, -0x1p-15i}[n.bits()%4]
}

// powers returns a wave of a side with powers of two.
func (n *numbers) powers(side int64) impl.Wave {
	w := impl.Wave{Side: side}
	for i := range side * side {
		w.Cells[i] = n.power()
	}
	return w
}

// quarterWave returns a plane wave of a side in which only quarters of a turn occur.
func (n *numbers) quarterWave(t *testing.T, side int64) impl.Wave {
	t.Helper()
	step := max(side/4, 1)
	w, code := impl.PlaneWave(side, step*int64(n.bits()%4), step*int64(n.bits()%4))
	wantNone(t, "PlaneWave", code)
	return w
}

// wantNothingToMend wants that pictures of an object mend neither it nor the probe.
func wantNothingToMend(t *testing.T, o, p impl.Wave, places []impl.Place) {
	t.Helper()
	pictures, code := impl.ScanPictures(o, p, places)
	wantNone(t, "ScanPictures", code)
	wantMissOfScan(t, o, p, places, pictures, 0, impl.ErrNone)
	for _, h := range someShares {
		wantPasses(t, o, p, places, pictures, h, 8, o, impl.ErrNone)
		for i, at := range places {
			wantObject(t, o, p, at, pictures[i], h, o, impl.ErrNone)
			wantProbe(t, o, p, at, pictures[i], h, p, impl.ErrNone)
		}
	}
}

// Guarantee: pictures of an object mend neither it nor the probe where only powers of two occur, in
// the exit wave as in its transform.
func TestOwnPicturesOfPowersOfTwo(t *testing.T) {
	n := numbers{392}
	forSides(func(side, m int64) {
		for range 6 {
			places := n.places(side, 1+int(n.bits()%20))
			// A single cell, at a place whose phases are quarters of a turn.
			step := max(m/4, 1)
			row, column := step*int64(n.bits()%uint64(min(m, 4))), step*int64(n.bits()%uint64(min(m, 4)))
			wantNothingToMend(t, n.powers(side), waveBut(m, 0, m*row+column, n.power()), places)
			wantNothingToMend(t, flat(side, n.power()), flat(m, n.power()), places)
			wantNothingToMend(t, flat(side, n.power()), n.quarterWave(t, m), places)
			wantNothingToMend(t, n.quarterWave(t, m), n.quarterWave(t, m), n.places(m, 5))
			wantNothingToMend(t, flat(side, 0), flat(m, 0), places)
		}
	})
	// An object of one cell, with another power of two in each cell of the probe.
	for _, m := range []int64{1, 2, 4} {
		o := waveOf(m, n.power())
		wantNothingToMend(t, o, n.powers(m), allPlaces(m))
	}
}

// scansOf returns what the functions of chapter 8 make of an object, a probe and pictures: results
// with the side of the object, and such with that of the probe.
func scansOf(t *testing.T, o, p impl.Wave, places []impl.Place, pictures []impl.Picture, h float32) (objects, probes results) {
	t.Helper()
	add := func(list *[]impl.Wave) func(w impl.Wave, code int64) {
		return func(w impl.Wave, code int64) {
			wantNone(t, "a function of scans", code)
			*list = append(*list, w)
		}
	}
	add(&objects.waves)(impl.MendObject(o, p, places[0], pictures[0], h))
	add(&objects.waves)(impl.RunPasses(o, p, places, pictures, h, 0))
	add(&objects.waves)(impl.RunPasses(o, p, places, pictures, h, 3))
	add(&probes.waves)(impl.PatchOf(o, p.Side, places[0]))
	add(&probes.waves)(impl.ExitWave(o, p, places[0]))
	add(&probes.waves)(impl.MendProbe(o, p, places[0], pictures[0], h))
	list, code := impl.ScanPictures(o, p, places)
	wantNone(t, "ScanPictures", code)
	picture, code := impl.PictureAt(o, p, places[0])
	wantNone(t, "PictureAt", code)
	probes.pictures = append(list, picture)
	miss, code := impl.ErrorOfScan(o, p, places, pictures)
	wantNone(t, "ErrorOfScan", code)
	probes.numbers = append(probes.numbers, miss)
	objects.integers, code = impl.CoverageOf(o.Side, p.Side, places)
	wantNone(t, "CoverageOf", code)
	return objects, probes
}

// Zeros of negative sign, also beyond the side, are zeros, and all further cells and levels of what
// arises are 0.
func TestZerosOfNegativeSignInScans(t *testing.T) {
	n := numbers{393}
	forSides(func(side, m int64) {
		objects := []impl.Wave{waveBut(side, 0, side*side-1, 2-1i), flat(side, 0), n.wave(side, -2, 2)}
		probes := []impl.Wave{waveBut(m, 0, 0, 3i), flat(m, 0), n.wave(m, -2, 2), n.mask(m)}
		for _, o := range objects {
			for _, p := range probes {
				places, pictures := n.places(side, 3), n.picturesOf(m, 3, -2, 2)
				var others []impl.Picture
				for _, b := range pictures {
					others = append(others, signedPicture(b))
				}
				for _, h := range [][2]float32{{0, zeroBelow}, {1, 1}} {
					object, probe := scansOf(t, o, p, places, pictures, h[0])
					signedObject, signedProbe := scansOf(t, signed(o), signed(p), places, others, h[1])
					if !signedObject.isSame(object) || !signedProbe.isSame(probe) {
						t.Errorf("the sides %d and %d with zeros of negative sign: %v and %v", side, m, signedObject, signedProbe)
					}
					for _, all := range []results{object, signedObject} {
						all.wantOnSide(t, side)
					}
					for _, all := range []results{probe, signedProbe} {
						all.wantOnSide(t, m)
					}
				}
			}
		}
	})
}

// Results depend on nothing but the arguments, which stay as they are, also behind their ends;
// lists that are returned go their own ways, and nothing is kept.
func TestScansKeepNothing(t *testing.T) {
	n := numbers{394}
	forSides(func(side, m int64) {
		o, p := n.wave(side, -1, 1), n.wave(m, -1, 1)
		wholePlaces, wholePictures := n.places(side, 7), n.picturesOf(m, 7, -1, 1)
		keptPlaces, keptPictures, keptO, keptP := slices.Clone(wholePlaces), slices.Clone(wholePictures), o, p
		places, pictures := wholePlaces[1:5], wholePictures[2:6]
		// The same place twice gives pictures with memory of their own.
		places[3], keptPlaces[4] = places[0], keptPlaces[1]
		object, probe := scansOf(t, o, p, places, pictures, 0.7)
		coverage, list := slices.Clone(object.integers), slices.Clone(probe.pictures)
		spoilCoverage(object.integers)
		spoilPictures(t, probe.pictures)
		grid, code := impl.GridOfPlaces(side, side)
		wantNone(t, "GridOfPlaces", code)
		whole := grid[:cap(grid)]
		for i := range whole {
			whole[i] = impl.Place{Row: -7, Column: -7}
		}
		wantGrid(t, side, side, []impl.Place{{}}, impl.ErrNone)
		object.integers, probe.pictures = coverage, list
		// Errors leave nothing behind either.
		wantObject(t, flat(side, most), flat(m, most), impl.Place{}, pictures[0], 1, o, impl.ErrLimit)
		wantScan(t, flat(side, most), flat(m, most), places, nil, impl.ErrLimit)
		again, probeAgain := scansOf(t, o, p, places, pictures, 0.7)
		if !again.isSame(object) || !probeAgain.isSame(probe) {
			t.Errorf("the results of the sides %d and %d are changed", side, m)
		}
		if !slices.Equal(wholePlaces, keptPlaces) || !slices.Equal(wholePictures, keptPictures) || o != keptO || p != keptP {
			t.Errorf("the arguments of the sides %d and %d are changed", side, m)
		}
	})
}

// spoilCoverage overwrites a list and what is behind its end.
func spoilCoverage(list []int64) {
	whole := list[:cap(list)]
	for i := range whole {
		whole[i] = -7
	}
}

// spoilPictures overwrites pictures one by one, and wants that no other one is changed by that.
func spoilPictures(t *testing.T, list []impl.Picture) {
	t.Helper()
	for i := range list {
		list[i].Levels[0] = float32(1000 + i)
	}
	for i, picture := range list {
		if picture.Levels[0] != float32(1000+i) {
			t.Errorf("the picture %d is changed with another one", i)
		}
	}
}
