package tests

import (
	"math"
	"slices"
	"testing"

	"loop.example/g01225/impl"
)

// minusZero is the zero of negative sign in both parts.
var minusZero = complex(float32(math.Copysign(0, -1)), float32(math.Copysign(0, -1)))

// mask returns a mask of a side with a fixed sequence of open cells.
func (n *numbers) mask(side int64) impl.Wave {
	m := impl.Wave{Side: side}
	for i := range side * side {
		m.Cells[i] = complex(float32(n.bits()&1), 0)
	}
	return m
}

// masksOf returns masks of a side: all of a small one, and otherwise those with all cells open,
// all closed and some open.
func masksOf(side int64) []impl.Wave {
	if side > 2 {
		n := numbers{uint64(40 + side)}
		return []impl.Wave{flat(side, 0), flat(side, 1), waveButLast(side), n.mask(side), n.mask(side), n.mask(side)}
	}
	var masks []impl.Wave
	for open := range 1 << (side * side) {
		m := impl.Wave{Side: side}
		for i := range side * side {
			m.Cells[i] = complex(float32(open>>i&1), 0)
		}
		masks = append(masks, m)
	}
	return masks
}

// signed returns a wave whose zeros, those beyond the side included, are of negative sign.
func signed(w impl.Wave) impl.Wave {
	for i, z := range w.Cells {
		if z == 0 {
			w.Cells[i] = minusZero
		}
		if z == 1 {
			w.Cells[i] = complex(1, imag(minusZero))
		}
	}
	return w
}

// noMasks returns values that are not masks, with and without being waves.
func noMasks() []impl.Wave {
	list := noWaves()
	for _, side := range sides {
		for _, z := range []complex64{
			2, -1, 1i, -1i, 1 + 1i, 0.5, least, -least, most, complex(0, least), complex(1, least), complex(1, -least),
			1 + 0x1p-23, 1 - 0x1p-24,
		} {
			for _, i := range []int64{0, side*side - 1} {
				m := flat(side, 1)
				m.Cells[i] = z
				list = append(list, m)
			}
		}
		if side < 8 {
			beyond, last := flat(side, 1), flat(side, 0)
			beyond.Cells[side*side], last.Cells[63] = 1, 1
			list = append(list, beyond, last)
		}
	}
	return list
}

func TestIsMask(t *testing.T) {
	for _, side := range sides {
		for _, m := range masksOf(side) {
			if !impl.IsMask(m) || !impl.IsMask(signed(m)) {
				t.Errorf("IsMask refuses %v", m)
			}
		}
	}
	for _, m := range noMasks() {
		if impl.IsMask(m) {
			t.Errorf("IsMask takes %v", m)
		}
	}
}

func TestBehindMask(t *testing.T) {
	n := numbers{41}
	for _, side := range sides {
		for _, m := range masksOf(side) {
			for _, w := range []impl.Wave{n.wave(side, -149, 127), n.wave(side, -3, 3), flat(side, complex(most, -least)), flat(side, 0)} {
				want := w
				for i := range want.Cells {
					if m.Cells[i] == 0 {
						want.Cells[i] = 0
					}
				}
				got, code := impl.BehindMask(w, m)
				wantWave(t, "BehindMask", got, code, want, impl.ErrNone)
				got, code = impl.BehindMask(signed(w), signed(m))
				wantWave(t, "BehindMask", got, code, want, impl.ErrNone)
			}
		}
	}
	w, code := impl.BehindMask(waveOf(2, 1i, most, 3, -least), waveOf(2, 0, 1, 0, 1))
	wantWave(t, "BehindMask", w, code, waveOf(2, 0, most, 0, -least), impl.ErrNone)
}

func TestCombinedMasks(t *testing.T) {
	for _, side := range sides {
		for _, m := range masksOf(side) {
			for _, k := range masksOf(side) {
				union, both := impl.Wave{Side: side}, impl.Wave{Side: side}
				for i := range side * side {
					union.Cells[i] = oneIf(real(m.Cells[i])+real(k.Cells[i]) > 0)
					both.Cells[i] = oneIf(real(m.Cells[i])+real(k.Cells[i]) == 2)
				}
				w, code := impl.UnionOf(m, k)
				wantWave(t, "UnionOf", w, code, union, impl.ErrNone)
				w, code = impl.UnionOf(signed(m), k)
				wantWave(t, "UnionOf", w, code, union, impl.ErrNone)
				w, code = impl.IntersectionOf(m, k)
				wantWave(t, "IntersectionOf", w, code, both, impl.ErrNone)
				w, code = impl.IntersectionOf(m, signed(k))
				wantWave(t, "IntersectionOf", w, code, both, impl.ErrNone)
			}
		}
	}
}

func TestComplementOf(t *testing.T) {
	for _, side := range sides {
		for _, m := range masksOf(side) {
			want := impl.Wave{Side: side}
			for i := range side * side {
				want.Cells[i] = 1 - m.Cells[i]
			}
			w, code := impl.ComplementOf(m)
			wantWave(t, "ComplementOf", w, code, want, impl.ErrNone)
			w, code = impl.ComplementOf(signed(m))
			wantWave(t, "ComplementOf", w, code, want, impl.ErrNone)
		}
	}
}

// wantOpenCells compares the numbers of open cells with a list; nil means ErrInvalid.
func wantOpenCells(t *testing.T, m impl.Wave, want []int64) {
	t.Helper()
	wantCode := int64(impl.ErrNone)
	if want == nil {
		wantCode = impl.ErrInvalid
	}
	if counts, code := impl.OpenCells(m); !slices.Equal(counts, want) || code != wantCode {
		t.Errorf("OpenCells(%v) = %v, %d; want %v, %d", m, counts, code, want, wantCode)
	}
}

func TestOpenCells(t *testing.T) {
	for _, side := range sides {
		for _, m := range masksOf(side) {
			want := make([]int64, side)
			for i := range side * side {
				want[i/side] += int64(real(m.Cells[i]))
			}
			wantOpenCells(t, m, want)
			wantOpenCells(t, signed(m), want)
		}
	}
	wantOpenCells(t, waveOf(4, 1, 1, 0, 1, 0, 0, 0, 0, 1, 1, 1, 1, 0, 0, 0, 1), []int64{3, 0, 4, 1})
	for _, bad := range noMasks() {
		wantOpenCells(t, bad, nil)
	}
}

func TestOpenCellsAreNewMemory(t *testing.T) {
	for _, side := range sides {
		m := flat(side, 1)
		first, _ := impl.OpenCells(m)
		first = first[:cap(first)]
		for i := range first {
			first[i] = -7
		}
		if m != flat(side, 1) {
			t.Errorf("the mask of the side %d is changed: %v", side, m)
		}
		wantOpenCells(t, m, slices.Repeat([]int64{side}, int(side)))
	}
}

func TestQuarterTurn(t *testing.T) {
	n := numbers{42}
	for _, side := range sides {
		w := n.wave(side, -149, 127)
		want := impl.Wave{Side: side}
		for y := range side {
			for x := range side {
				want.Cells[side*x+side-1-y] = w.Cells[side*y+x]
			}
		}
		got, code := impl.QuarterTurn(w)
		wantWave(t, "QuarterTurn", got, code, want, impl.ErrNone)
	}
	w, code := impl.QuarterTurn(waveOf(2, 1, 2i, 3, -4))
	wantWave(t, "QuarterTurn", w, code, waveOf(2, 3, 1, -4, 2i), impl.ErrNone)
	w, code = impl.QuarterTurn(waveOf(4, 0, 1, 2, 3, 4, 5, 6, 7, 8, 9, 10, 11, 12, 13, 14, 15))
	wantWave(t, "QuarterTurn", w, code, waveOf(4, 12, 8, 4, 0, 13, 9, 5, 1, 14, 10, 6, 2, 15, 11, 7, 3), impl.ErrNone)
	for _, bad := range noWaves() {
		w, code := impl.QuarterTurn(bad)
		wantNoWave(t, "QuarterTurn of no wave", w, code, impl.ErrInvalid)
	}
}

// Promise 3: what is behind a mask and behind its complement adds up to the wave.
func TestPartsBehindMasksAddUp(t *testing.T) {
	n := numbers{43}
	for _, side := range sides {
		for _, m := range masksOf(side) {
			w := n.wave(side, -149, 127)
			complement, _ := impl.ComplementOf(m)
			open, code := impl.BehindMask(w, m)
			closed, otherCode := impl.BehindMask(w, complement)
			if code != impl.ErrNone || otherCode != impl.ErrNone {
				t.Fatalf("BehindMask: codes %d, %d", code, otherCode)
			}
			sum, code := impl.AddWaves(open, closed)
			wantWave(t, "AddWaves of both parts", sum, code, w, impl.ErrNone)
			for i := range side * side {
				if m.Cells[i] == 0 && open.Cells[i] != 0 || m.Cells[i] == 1 && closed.Cells[i] != 0 {
					t.Errorf("the cell %d shines through %v", i, m)
				}
			}
		}
	}
}

// Promise 3: four quarter turns make none, but fewer do where the wave has no symmetry.
func TestFourQuarterTurns(t *testing.T) {
	n := numbers{44}
	for _, side := range sides {
		w := n.wave(side, -149, 127)
		turned := w
		for turns := 1; turns <= 4; turns++ {
			code := int64(0)
			if turned, code = impl.QuarterTurn(turned); code != impl.ErrNone {
				t.Fatalf("QuarterTurn: code %d", code)
			}
			if isSame := turned == w; isSame != (turns == 4 || side == 1) {
				t.Errorf("after %d quarter turns of %v: %v", turns, w, turned)
			}
		}
	}
}

// Guarantee: masks with their complements are open everywhere.
func TestMasksWithComplements(t *testing.T) {
	for _, side := range sides {
		for _, m := range masksOf(side) {
			complement, code := impl.ComplementOf(m)
			if code != impl.ErrNone {
				t.Fatalf("ComplementOf: code %d", code)
			}
			w, code := impl.UnionOf(m, complement)
			wantWave(t, "UnionOf", w, code, flat(side, 1), impl.ErrNone)
			w, code = impl.IntersectionOf(m, complement)
			wantWave(t, "IntersectionOf", w, code, flat(side, 0), impl.ErrNone)
		}
	}
}

// Guarantee: the counts of unions and intersections add up to those of both.
func TestCountsAddUp(t *testing.T) {
	for _, side := range sides {
		for _, m := range masksOf(side) {
			for _, k := range masksOf(side) {
				union, _ := impl.UnionOf(m, k)
				both, _ := impl.IntersectionOf(m, k)
				if a, b := addedCounts(t, union, both), addedCounts(t, m, k); !slices.Equal(a, b) {
					t.Errorf("the counts of %v and %v are %v together, those of union and intersection %v", m, k, b, a)
				}
			}
		}
	}
}

// addedCounts returns the sums of the numbers of open cells of two masks.
func addedCounts(t *testing.T, m, k impl.Wave) []int64 {
	t.Helper()
	first, code := impl.OpenCells(m)
	second, otherCode := impl.OpenCells(k)
	if code != impl.ErrNone || otherCode != impl.ErrNone || len(first) != len(second) {
		t.Fatalf("OpenCells: %v, %d, and %v, %d", first, code, second, otherCode)
	}
	for i, count := range second {
		first[i] += count
	}
	return first
}

func TestErrorsOfMasks(t *testing.T) {
	for _, bad := range noMasks() {
		w, code := impl.ComplementOf(bad)
		wantNoWave(t, "ComplementOf", w, code, impl.ErrInvalid)
		for _, good := range []impl.Wave{flat(1, 1), flat(2, 1), flat(8, 0)} {
			for name, f := range map[string]pairFunction{"UnionOf": impl.UnionOf, "IntersectionOf": impl.IntersectionOf} {
				w, code = f(bad, good)
				wantNoWave(t, name, w, code, impl.ErrInvalid)
				w, code = f(good, bad)
				wantNoWave(t, name, w, code, impl.ErrInvalid)
			}
			w, code = impl.BehindMask(good, bad)
			wantNoWave(t, "BehindMask", w, code, impl.ErrInvalid)
		}
	}
	for _, bad := range noWaves() {
		for _, m := range []impl.Wave{flat(1, 1), flat(2, 0), flat(8, 1), flat(2, 2), bad} {
			w, code := impl.BehindMask(bad, m)
			wantNoWave(t, "BehindMask of no wave", w, code, impl.ErrInvalid)
		}
	}
}

func TestDifferentSidesOfMasks(t *testing.T) {
	for _, a := range sides {
		for _, b := range sides {
			if a == b {
				continue
			}
			for _, open := range []complex64{0, 1} {
				w, code := impl.UnionOf(flat(a, open), flat(b, 1))
				wantNoWave(t, "UnionOf", w, code, impl.ErrRange)
				w, code = impl.IntersectionOf(flat(a, open), flat(b, 0))
				wantNoWave(t, "IntersectionOf", w, code, impl.ErrRange)
				w, code = impl.BehindMask(flat(a, most), flat(b, open))
				wantNoWave(t, "BehindMask", w, code, impl.ErrRange)
			}
		}
	}
}

// Waves and masks that are given stay as they are, and those that are returned go their own ways.
func TestMasksKeepTheirArguments(t *testing.T) {
	for _, side := range sides {
		w, m, k := flat(side, 3i), flat(side, 1), waveButLast(side)
		results := func() []impl.Wave {
			behind, _ := impl.BehindMask(w, m)
			complement, _ := impl.ComplementOf(k)
			union, _ := impl.UnionOf(k, m)
			both, _ := impl.IntersectionOf(k, m)
			turned, _ := impl.QuarterTurn(w)
			return []impl.Wave{behind, complement, union, both, turned}
		}
		first := results()
		kept := slices.Clone(first)
		for i := range first {
			first[i].Cells[0] = 9
		}
		if w != flat(side, 3i) || m != flat(side, 1) || k != waveButLast(side) {
			t.Errorf("the arguments of the side %d are changed", side)
		}
		if !slices.Equal(results(), kept) {
			t.Errorf("the results of the side %d are changed", side)
		}
	}
}
