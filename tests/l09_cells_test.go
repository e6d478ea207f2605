package tests

import (
	"slices"
	"testing"

	"loop.example/g01225/impl"
)

// withCells returns a source whose waves have other cells at a place.
func (s light) withCells(place int64, cells ...complex64) light {
	other := light{slices.Clone(s.list), slices.Clone(s.weights)}
	for i, z := range cells {
		other.list[i].Cells[place] = z
	}
	return other
}

// greatLights returns sources of four waves that have what a source has, but at one place a level that
// is not finite: by a square in one of the waves, whatever its weight is, by a weight times a square, or
// by nothing but the sum over several waves. It also returns the source without these cells, for each.
func greatLights(n *numbers, side, place int64) (great, near []light) {
	base := func(weights ...float32) light {
		s := n.light(side, 4, [4]int{-3, 3, -3, 3})
		s.weights = weights
		return s.withCells(place, 0, 0, 0, 0)
	}
	add := func(s light, cells ...complex64) {
		great, near = append(great, s.withCells(place, cells...)), append(near, s)
	}
	for _, weight := range []float32{0, zeroBelow, least, 0.3, 1} {
		add(base(weight, 1, 2, 3), 2e19)
		add(base(2, 1, weight, 0.5), 1, 1i, -0x1p64i, 1)
		add(base(1, 1.5, 0, weight), 0, 0, 0, most-most*1i)
	}
	add(base(1, 0x1p20, 2, 3), 0, 0x1p54)
	add(base(0x1p20, 0, 2, 3), 0x1p54i, 1, 1, 1)
	for _, turn := range []complex64{1, 1i, -1, -1i} {
		add(base(1, 1, 1, 1), 0x1p63, 0x1p63*turn, 0x1p63*turn, -0x1p63)
		add(base(3, 0.25, 0, 1), 0x1p63*turn, 0, 0, 0x1p63)
		add(base(0.5, 0.5, 1, 0.75), 0x1p63, 0x1p63*turn, 0x1.8p63, 0x1.8p63*turn)
	}
	return great, near
}

// cellsOf returns all pairs of cells of small sides, and some of those of the side 8.
func cellsOf(n *numbers, side int64) (cells [][2]int64) {
	for range 40 {
		cells = append(cells, [2]int64{n.cell(side), n.cell(side)})
	}
	if side > 4 {
		return cells
	}
	for p := range side * side {
		for q := range side * side {
			cells = append(cells, [2]int64{p, q})
		}
	}
	return cells
}

// wantAsIn wants of a source at two cells degrees, visibilities and fringes of another source, and that
// this one has them.
func wantAsIn(t *testing.T, s, other light, p, q int64) {
	t.Helper()
	degree, code := impl.DegreeOf(other.list, other.weights, p, q)
	wantNone(t, "DegreeOf", code)
	wantDegree(t, s, p, q, degree, code)
	visibility, code := impl.VisibilityOf(other.list, other.weights, p, q)
	wantNone(t, "VisibilityOf", code)
	wantVisibility(t, s, p, q, visibility, code)
	fringes, code := impl.FringesOf(other.list, other.weights, p, q)
	wantNone(t, "FringesOf", code)
	wantFringesAt(t, s, p, q, fringes, code)
}

// A level that is not finite at another cell leaves degrees, visibilities and fringes as they are
// without it; at p or q it leaves none. The intensity asks for all levels.
func TestLevelsOfOtherCells(t *testing.T) {
	n := numbers{440}
	for _, side := range sides {
		for _, place := range []int64{0, n.cell(side), side*side - 1} {
			great, near := greatLights(&n, side, place)
			for i, s := range great {
				wantSourceIntensity(t, s, impl.Picture{}, impl.ErrLimit)
				if _, code := impl.SourceIntensity(near[i].list, near[i].weights); code != impl.ErrNone {
					t.Errorf("SourceIntensity(%v): code %d", near[i], code)
				}
				for _, cells := range cellsOf(&n, side) {
					p, q := cells[0], cells[1]
					if p != place && q != place {
						wantAsIn(t, s, near[i], p, q)
						continue
					}
					wantDegree(t, s, p, q, 0, impl.ErrLimit)
					wantVisibility(t, s, p, q, 0, impl.ErrLimit)
					wantFringesAt(t, s, p, q, nil, impl.ErrLimit)
				}
				// What is the same as without the cell is what the document tells, too.
				wantCoherence(t, s, n.cell(side), n.cell(side))
			}
		}
	}
}

// The levels of two waves at the cell 2 are finite, but their sum is not; those at the cell 3 are 0.
// What is not defined remains so, and with the cell 2 as p or q there is nothing.
func TestSumsAtOtherCells(t *testing.T) {
	const none, state, limit = impl.ErrNone, impl.ErrState, impl.ErrLimit
	s := light{[]impl.Wave{waveOf(2, 1, 1, 0x1p63, 0), waveOf(2, 1, -1, 0x1p63, 0)}, []float32{3, 1}}
	wantSourceIntensity(t, s, impl.Picture{}, limit)
	wantSourceIntensity(t, light{s.list, []float32{3, 0}}, pictureOf(2, 3, 3, 0x1.8p127, 0), none)
	wantMutual(t, s, 0, 1, 2, none)
	for _, cells := range [][2]int64{{0, 1}, {1, 0}} {
		p, q := cells[0], cells[1]
		wantDegree(t, s, p, q, 0.5, none)
		wantVisibility(t, s, p, q, 0.5, none)
		fringes, code := impl.FringesOf(s.list, s.weights, p, q)
		if len(fringes) != 64 || fringes[0] != 12 || fringes[16] != 8 || fringes[32] != 4 || code != none {
			t.Errorf("FringesOf(%v, %d, %d) = %v, %d", s, p, q, fringes, code)
		}
	}
	for _, p := range []int64{0, 1} {
		wantDegree(t, s, p, p, 1, none)
		wantVisibility(t, s, p, p, 1, none)
		wantFringesAt(t, s, p, 3, slices.Repeat([]float32{4}, 64), none)
		wantVisibility(t, s, 3, p, 0, none)
		wantCoherenceCodes(t, s, p, 3, state, none, none)
	}
	wantFringesAt(t, s, 3, 3, make([]float32, 64), none)
	wantCoherenceCodes(t, s, 3, 3, state, state, none)
	for p := range int64(4) {
		wantCoherenceCodes(t, s, p, 2, limit, limit, limit)
	}
}

// What is made of finite levels is ErrLimit as ever beside another cell whose level is not finite.
func TestLimitsBesideOtherCells(t *testing.T) {
	const none, limit = impl.ErrNone, impl.ErrLimit
	for _, side := range sides[1:] {
		last := side*side - 1
		for place := int64(1); place < last; place++ {
			other := waveBut(side, 0, place, 0x1p64)
			with := func(z complex64, weight float32) light {
				return light{[]impl.Wave{other, waveBut(side, z, place, 1)}, []float32{1, weight}}
			}
			// The square of the mutual number, and then the sum of the levels, are not finite.
			wantCoherenceCodes(t, with(0x1.fffffep31, 1), 0, last, none, none, none)
			wantCoherenceCodes(t, with(0x1p32i, 1), 0, last, limit, limit, none)
			wantCoherenceCodes(t, with(-1, 0x1p64), 0, last, limit, limit, none)
			wantCoherenceCodes(t, with(0x1p63, 2), 0, last, limit, limit, limit)
			wantCoherenceCodes(t, with(0x1p63i, 4), 0, last, limit, limit, limit)
		}
	}
}
