package tests

import (
	"slices"
	"testing"

	"loop.example/g01225/impl"
)

// fringesOf returns the fringe map of the four pictures of two waves.
func fringesOf(t *testing.T, o, r impl.Wave) []int64 {
	t.Helper()
	pictures, code := impl.FourPictures(o, r)
	wantNone(t, "FourPictures", code)
	list, code := impl.FringeMap(pictures)
	wantNone(t, "FringeMap", code)
	return list
}

// waveOfHeights returns the wave of a height map.
func waveOfHeights(t *testing.T, side int64, h []int64) impl.Wave {
	t.Helper()
	w, code := impl.WaveOfHeights(side, h)
	wantNone(t, "WaveOfHeights", code)
	return w
}

// wrapped returns a height map with all heights wrapped.
func wrapped(t *testing.T, side int64, h []int64) []int64 {
	t.Helper()
	list, code := impl.WrapHeights(side, h)
	wantNone(t, "WrapHeights", code)
	return list
}

// allHeights returns height maps of a side that have all heights of a range between them, the
// last one filled up with its first height.
func allHeights(side, low, high int64) [][]int64 {
	var maps [][]int64
	for first := low; first <= high; first += side * side {
		list := slices.Repeat([]int64{first}, int(side*side))
		for i := range list {
			if h := first + int64(i); h <= high {
				list[i] = h
			}
		}
		maps = append(maps, list)
	}
	return maps
}

// Guarantee: phase maps of waves of heights are these heights, wrapped.
func TestPhaseMapsOfWavesOfHeights(t *testing.T) {
	for _, side := range sides {
		for _, ends := range [][2]int64{{-130, 130}, {-100000, -99930}, {99930, 100000}} {
			for _, h := range allHeights(side, ends[0], ends[1]) {
				w := waveOfHeights(t, side, h)
				wantPhaseMap(t, w, wrapAll(h), impl.ErrNone)
				wantPhaseMap(t, w, wrapped(t, side, h), impl.ErrNone)
			}
		}
	}
}

// Promise 16: fringe maps of four pictures of a wave of heights are these heights, wrapped.
func TestFringeMapsOfWavesOfHeights(t *testing.T) {
	for _, side := range sides {
		for _, ends := range [][2]int64{{-70, 130}, {-100000, -99930}, {99930, 100000}} {
			for _, h := range allHeights(side, ends[0], ends[1]) {
				o := waveOfHeights(t, side, h)
				for _, level := range []complex64{1, 0.5, 2, 1024} {
					got := fringesOf(t, o, flat(side, level))
					wantMap(t, "the fringe map", got, impl.ErrNone, wrapAll(h), impl.ErrNone)
				}
			}
		}
	}
}

// A reference wave of heights takes its own heights away.
func TestFringeMapsOfReferenceWaves(t *testing.T) {
	n := numbers{340}
	for round := range 24 {
		side := sides[round%4]
		h, k := n.heights(side, -200, 200), n.heights(side, -200, 200)
		difference := slices.Clone(h)
		for i := range difference {
			difference[i] -= k[i]
		}
		got := fringesOf(t, waveOfHeights(t, side, h), waveOfHeights(t, side, k))
		wantMap(t, "the fringe map", got, impl.ErrNone, wrapAll(difference), impl.ErrNone)
	}
}

// unwrapped returns the heights of a wrapped map, unwrapped along rows, and by floods from all
// cells through all cells.
func unwrapped(t *testing.T, side int64, h []int64) [][]int64 {
	t.Helper()
	list, code := impl.UnwrapRows(side, h)
	wantNone(t, "UnwrapRows", code)
	maps := [][]int64{list}
	for y := range side {
		for x := range side {
			list, code := impl.UnwrapFlood(side, h, flat(side, 1), y, x)
			wantNone(t, "UnwrapFlood", code)
			maps = append(maps, list)
		}
	}
	return maps
}

// Promise 7 and guarantee: maps that are unwrapped are the maps when wrapped again.
func TestUnwrappedMapsWrappedAgain(t *testing.T) {
	n := numbers{341}
	for round := range 40 {
		side := sides[round%4]
		for _, h := range [][]int64{
			n.heights(side, 0, 63), wrapped(t, side, n.heights(side, -100000, 100000)),
			wrapped(t, side, n.heights(side, 55, 75)), wrapped(t, side, plane(side, 9, -32, 31)),
		} {
			for _, list := range unwrapped(t, side, h) {
				wantMap(t, "WrapHeights", wrapped(t, side, list), impl.ErrNone, h, impl.ErrNone)
			}
			// Behind a mask this holds for the cells that are met, and the others are 0.
			m := n.mask(side)
			m.Cells[0] = 1
			list, code := impl.UnwrapFlood(side, h, m, 0, 0)
			wantNone(t, "UnwrapFlood", code)
			for i, height := range list {
				if m.Cells[i] == 0 && height != 0 || height != 0 && wrapOne(height) != h[i] {
					t.Errorf("the height %d of %d", height, h[i])
				}
			}
		}
	}
}

// hasSteepStep reports whether a wrapped difference between two neighbours is -32, either way.
func hasSteepStep(side int64, h []int64) bool {
	for i := range h {
		place := int64(i)
		if place%side < side-1 && difference(h[place], h[place+1]) == -32 {
			return true
		}
		if place/side < side-1 && difference(h[place], h[place+side]) == -32 {
			return true
		}
	}
	return false
}

// Guarantee: maps without residues, and without a wrapped difference of -32 between neighbouring
// cells, are unwrapped in the same way along rows and by floods from the first cell; those by
// floods from other cells differ from them by whole turns.
func TestMapsWithoutResidues(t *testing.T) {
	n, without, with := numbers{342}, map[int64]int{}, 0
	for round := range 400 {
		side := sides[round%4]
		size := []int64{63, 40, 31, 16}[round/4%4]
		h := wrapAll(n.heights(side, 1000, 1000+size))
		if round%3 == 0 {
			for i, slope := range plane(side, 5, int64(round%28)-14, int64(round%26)-13) {
				h[i] = wrapOne(slope + h[i]%8)
			}
		}
		list, code := impl.ResiduesOf(side, h)
		wantNone(t, "ResiduesOf", code)
		isFree := !slices.ContainsFunc(list, func(residue int64) bool { return residue != 0 }) && !hasSteepStep(side, h)
		maps := unwrapped(t, side, h)
		if !isFree {
			if !slices.Equal(maps[0], maps[1]) {
				with++
			}
			continue
		}
		without[side]++
		for start, other := range maps[1:] {
			shifted := slices.Clone(maps[0])
			for i := range shifted {
				shifted[i] += h[start] - maps[0][start]
			}
			wantMap(t, "UnwrapFlood", other, impl.ErrNone, shifted, impl.ErrNone)
		}
	}
	if without[2] < 40 || without[4] < 40 || without[8] < 40 || with < 20 {
		t.Errorf("there are %v maps without residues, and %d others are unwrapped in different ways", without, with)
	}
}

// With a wrapped difference of -32 the ways differ even without residues.
func TestSteepMapsWithoutResidues(t *testing.T) {
	h := heightMap{2, []int64{0, 10, 32, 20}}
	wantHeights(t, "ResiduesOf", impl.ResiduesOf, h, []int64{0}, impl.ErrNone)
	wantHeights(t, "UnwrapRows", impl.UnwrapRows, h, []int64{0, 10, -32, -44}, impl.ErrNone)
	wantFlood(t, h, flat(2, 1), 0, 0, []int64{0, 10, -32, 20}, impl.ErrNone)
}

// Promise 7 and guarantee: plane heights with small steps come back from their wrapped maps, and
// so do their slopes.
func TestPlaneHeightsComeBack(t *testing.T) {
	for _, side := range sides {
		for u := int64(-32); u <= 31; u++ {
			for v := int64(-32); v <= 31; v += 1 + 62/side {
				for _, first := range []int64{0, 1, 40, 63} {
					h := plane(side, first, u, v)
					again := wrapped(t, side, h)
					wantHeights(t, "UnwrapRows", impl.UnwrapRows, heightMap{side, again}, h, impl.ErrNone)
					wantFlood(t, heightMap{side, again}, flat(side, 1), 0, 0, h, impl.ErrNone)
					want := []int64{u, v}
					if side == 1 {
						want = []int64{0, 0}
					}
					wantHeights(t, "SlopesOf", impl.SlopesOf, heightMap{side, h}, want, impl.ErrNone)
				}
			}
		}
		// The first height of other planes is wrapped.
		again := wrapped(t, side, plane(side, -1, 7, -9))
		wantHeights(t, "UnwrapRows", impl.UnwrapRows, heightMap{side, again}, plane(side, 63, 7, -9), impl.ErrNone)
		// Steps that are greater do not come back.
		again = wrapped(t, side, plane(side, 0, 32, 0))
		wantHeights(t, "UnwrapRows", impl.UnwrapRows, heightMap{side, again}, plane(side, 0, -32, 0), impl.ErrNone)
	}
}

// From fringes to slopes: heights that are pictured, unwrapped and fitted are those of the wave.
func TestSlopesFromPictures(t *testing.T) {
	for _, side := range []int64{2, 4, 8} {
		for _, steps := range [][2]int64{{3, -7}, {-31, 31}, {0, 12}} {
			h := plane(side, 21, steps[0], steps[1])
			again := fringesOf(t, waveOfHeights(t, side, h), flat(side, 1))
			list, code := impl.UnwrapRows(side, again)
			wantMap(t, "UnwrapRows", list, code, h, impl.ErrNone)
			wantHeights(t, "SlopesOf", impl.SlopesOf, heightMap{side, list}, steps[:], impl.ErrNone)
		}
	}
}

// mapsOf returns the lists that the functions of chapter 7 make of heights, of a mask and of a
// list of pictures.
func mapsOf(t *testing.T, side int64, heights []int64, m impl.Wave, pictures []impl.Picture) [][]int64 {
	t.Helper()
	var lists [][]int64
	add := func(list []int64, code int64) {
		wantNone(t, "a function of heights", code)
		lists = append(lists, list)
	}
	add(impl.WrapHeights(side, heights))
	add(impl.ResiduesOf(side, heights))
	add(impl.UnwrapRows(side, heights))
	add(impl.UnwrapFlood(side, heights, m, 0, 0))
	add(impl.UnwrapFlood(side, heights, m, side-1, 0))
	add(impl.SlopesOf(side, heights))
	add(impl.FringeMap(pictures))
	add(impl.PhaseMap(waveOfHeights(t, side, heights)))
	return lists
}

// copies returns lists with memory of their own.
func copies(lists [][]int64) [][]int64 {
	var all [][]int64
	for _, list := range lists {
		all = append(all, slices.Clone(list))
	}
	return all
}

// Results depend on nothing but the arguments, which stay as they are, also behind their ends;
// lists that are returned go their own ways, and nothing is kept.
func TestFringesKeepNothing(t *testing.T) {
	n := numbers{343}
	for _, side := range sides {
		cells := side * side
		memory := n.heights(16, 0, 63)
		kept := slices.Clone(memory)
		h := memory[3 : 3+cells]
		m := waveBut(side, 1, side-1, oneIf(side < 3))
		pictures := []impl.Picture{n.picture(side, -3, 3), n.picture(side, -3, 3), n.picture(side, -3, 3), n.picture(side, -3, 3), {}}
		keptPictures := slices.Clone(pictures)
		first := mapsOf(t, side, h, m, pictures[:4])
		want := copies(first)
		for _, list := range first {
			whole := list[:cap(list)]
			for i := range whole {
				whole[i] = -7
			}
		}
		second := mapsOf(t, side, h, m, pictures[:4])
		for i, list := range second {
			wantMap(t, "a function of heights", list, impl.ErrNone, want[i], impl.ErrNone)
		}
		if !slices.Equal(memory, kept) || !slices.Equal(pictures, keptPictures) {
			t.Errorf("the arguments of the side %d are changed", side)
		}
		// Errors leave nothing behind either.
		wantFringes(t, []impl.Picture{even(side, most), even(side, most), even(side, 0), even(side, 0)}, nil, impl.ErrLimit)
		wantPart(t, complex(most, most), 0, impl.ErrLimit)
		for i, list := range mapsOf(t, side, h, m, pictures[:4]) {
			wantMap(t, "a function of heights", list, impl.ErrNone, want[i], impl.ErrNone)
		}
	}
}

// Pictures of one list, and of one call and another, go their own ways.
func TestFourPicturesAreNewMemory(t *testing.T) {
	n := numbers{344}
	for _, side := range sides {
		o, r := n.wave(side, -1, 1), n.wave(side, -1, 1)
		keptO, keptR := o, r
		first, code := impl.FourPictures(o, r)
		wantNone(t, "FourPictures", code)
		kept := slices.Clone(first)
		for i := range first {
			first[i].Levels[0] = float32(100 + i)
		}
		for i, p := range first {
			if p.Levels[0] != float32(100+i) {
				t.Errorf("the picture %d is changed with another one", i)
			}
		}
		first = append(first, impl.Picture{})
		wantFour(t, o, r, kept, impl.ErrNone)
		if o != keptO || r != keptR {
			t.Errorf("the waves of the side %d are changed", side)
		}
	}
}
