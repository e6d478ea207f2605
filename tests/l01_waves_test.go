package tests

import (
	"math"
	"testing"

	"loop.example/g01225/impl"
)

// wantWave reports a difference of a wave and a code from those that are wanted.
func wantWave(t *testing.T, name string, w impl.Wave, code int64, want impl.Wave, wantCode int64) {
	t.Helper()
	if w != want || code != wantCode {
		t.Errorf("%s = %v, %d; want %v, %d", name, w, code, want, wantCode)
	}
}

// wantNoWave reports that a function did not return the zero value and a code.
func wantNoWave(t *testing.T, name string, w impl.Wave, code int64, wantCode int64) {
	t.Helper()
	wantWave(t, name, w, code, impl.Wave{}, wantCode)
}

func TestConstants(t *testing.T) {
	codes := []int64{impl.ErrNone, impl.ErrInvalid, impl.ErrRange, impl.ErrLimit, impl.ErrNotFound, impl.ErrState, impl.ErrSyntax}
	for i, code := range codes {
		if code != int64(i) {
			t.Errorf("error code %d is %d", i, code)
		}
	}
	if impl.MaxPlace != math.Float32bits(most) || impl.MaxSide != 8 {
		t.Errorf("MaxPlace = %d, MaxSide = %d", impl.MaxPlace, impl.MaxSide)
	}
}

func TestPhaseBits(t *testing.T) {
	for k := int64(-200); k <= 200; k++ {
		if z, want := impl.PhaseOf(k), exactPhase(k); z != want {
			t.Errorf("PhaseOf(%d) = %v, want %v", k, z, want)
		}
	}
}

func TestPhasesOfQuarters(t *testing.T) {
	quarters := []complex64{1, 1i, -1, -1i}
	for _, turns := range []int64{0, 1, 5, -1, -7, 1 << 57, -1 << 57} {
		for i, want := range quarters {
			k := 64*turns + 16*int64(i)
			if z := impl.PhaseOf(k); z != want {
				t.Errorf("PhaseOf(%d) = %v, want %v", k, z, want)
			}
		}
	}
	if z := impl.PhaseOf(math.MinInt64); z != 1 {
		t.Errorf("PhaseOf of the least integer = %v", z)
	}
	if z := impl.PhaseOf(math.MaxInt64); z != impl.PhaseOf(63) {
		t.Errorf("PhaseOf of the greatest integer = %v", z)
	}
}

// Promise 1: opposite phases are opposite.
func TestOppositePhases(t *testing.T) {
	for k := int64(-130); k <= 130; k++ {
		z := impl.PhaseOf(k)
		if opposite := impl.PhaseOf(k + 32); opposite != -z {
			t.Errorf("PhaseOf(%d) = %v, PhaseOf(%d) = %v", k, z, k+32, opposite)
		}
		if turned := impl.PhaseOf(k + 16); turned != complex(-imag(z), real(z)) {
			t.Errorf("PhaseOf(%d) = %v, PhaseOf(%d) = %v", k, z, k+16, turned)
		}
		if again := impl.PhaseOf(k - 64); again != z {
			t.Errorf("PhaseOf(%d) = %v, PhaseOf(%d) = %v", k, z, k-64, again)
		}
	}
}

func TestIsWave(t *testing.T) {
	for _, side := range sides {
		full := flat(side, complex(-most, least))
		if !impl.IsWave(impl.Wave{Side: side}) || !impl.IsWave(full) {
			t.Errorf("IsWave refuses waves of the side %d", side)
		}
	}
	zeros := waveOf(1, 1, complex(float32(math.Copysign(0, -1)), 0))
	if !impl.IsWave(zeros) {
		t.Errorf("IsWave refuses a negative zero beyond the side")
	}
	for _, w := range noWaves() {
		if impl.IsWave(w) {
			t.Errorf("IsWave takes %v", w)
		}
	}
}

func TestIsPicture(t *testing.T) {
	for _, side := range sides {
		full := impl.Picture{Side: side}
		for i := range side * side {
			full.Levels[i] = most
		}
		full.Levels[0] = float32(math.Copysign(0, -1))
		if !impl.IsPicture(impl.Picture{Side: side}) || !impl.IsPicture(full) {
			t.Errorf("IsPicture refuses pictures of the side %d", side)
		}
		for _, bad := range []float32{-least, -1, inf, -inf, nan} {
			last := full
			last.Levels[side*side-1] = bad
			if impl.IsPicture(last) {
				t.Errorf("IsPicture takes the level %v on the side %d", bad, side)
			}
		}
		if side < 8 {
			beyond, end := full, full
			beyond.Levels[side*side], end.Levels[63] = 1, nan
			if impl.IsPicture(beyond) || impl.IsPicture(end) {
				t.Errorf("IsPicture takes levels beyond the side %d", side)
			}
		}
	}
	for _, side := range []int64{0, -1, -8, 3, 5, 6, 7, 9, 16, math.MinInt64, math.MaxInt64} {
		if impl.IsPicture(impl.Picture{Side: side}) {
			t.Errorf("IsPicture takes the side %d", side)
		}
	}
}

func TestFlatWave(t *testing.T) {
	for _, side := range sides {
		w, code := impl.FlatWave(side, complex(-least, most))
		wantWave(t, "FlatWave", w, code, flat(side, complex(-least, most)), impl.ErrNone)
	}
	for _, side := range []int64{0, -2, 3, 5, 9, 16, math.MinInt64} {
		w, code := impl.FlatWave(side, 1)
		wantNoWave(t, "FlatWave of no side", w, code, impl.ErrRange)
	}
	for _, z := range []complex64{complex(inf, 0), complex(0, -inf), complex(0, nan)} {
		w, code := impl.FlatWave(2, z)
		wantNoWave(t, "FlatWave of no complex number", w, code, impl.ErrInvalid)
		w, code = impl.FlatWave(3, z)
		wantNoWave(t, "FlatWave of neither", w, code, impl.ErrInvalid)
	}
}

func TestPlaneWave(t *testing.T) {
	slopes := []int64{-64, -63, -9, -3, -1, 0, 1, 2, 3, 5, 17, 63, 64}
	for _, side := range sides {
		for _, u := range slopes {
			for _, v := range slopes {
				want := impl.Wave{Side: side}
				for y := range side {
					for x := range side {
						want.Cells[side*y+x] = exactPhase((u*x + v*y) * 64 / side)
					}
				}
				w, code := impl.PlaneWave(side, u, v)
				wantWave(t, "PlaneWave", w, code, want, impl.ErrNone)
			}
		}
	}
}

func TestPlaneWaveErrors(t *testing.T) {
	for _, bad := range [][3]int64{
		{0, 0, 0}, {3, 1, 0}, {-2, 1, 0}, {16, 0, 0}, {2, 65, 0}, {2, -65, 0}, {2, 0, 65}, {2, 0, -65},
		{4, math.MinInt64, 0}, {4, 0, math.MaxInt64}, {math.MinInt64, 1, 1},
	} {
		w, code := impl.PlaneWave(bad[0], bad[1], bad[2])
		wantNoWave(t, "PlaneWave", w, code, impl.ErrRange)
	}
}

func TestCellOf(t *testing.T) {
	n := numbers{1}
	for _, side := range sides {
		w := n.wave(side, -140, 127)
		for y := range side {
			for x := range side {
				if z, code := impl.CellOf(w, y, x); z != w.Cells[side*y+x] || code != impl.ErrNone {
					t.Errorf("CellOf(%d, %d) = %v, %d", y, x, z, code)
				}
			}
		}
		far := int64(math.MinInt64)
		for _, bad := range [][2]int64{{-1, 0}, {0, -1}, {side, 0}, {0, side}, {far, 0}, {0, far}} {
			if z, code := impl.CellOf(w, bad[0], bad[1]); z != 0 || code != impl.ErrRange {
				t.Errorf("CellOf(%d, %d) = %v, %d", bad[0], bad[1], z, code)
			}
		}
	}
	for _, w := range noWaves() {
		for _, y := range []int64{0, -1} {
			if z, code := impl.CellOf(w, y, 0); z != 0 || code != impl.ErrInvalid {
				t.Errorf("CellOf of no wave = %v, %d", z, code)
			}
		}
	}
}

func TestShiftWave(t *testing.T) {
	n := numbers{2}
	shifts := []int64{-64, -63, -9, -2, -1, 0, 1, 3, 8, 63, 64}
	for _, side := range sides {
		w := n.wave(side, -149, 127)
		for _, v := range shifts {
			for _, u := range shifts {
				want := impl.Wave{Side: side}
				for y := range side {
					for x := range side {
						want.Cells[(y+v+64)%side*side+(x+u+64)%side] = w.Cells[side*y+x]
					}
				}
				s, code := impl.ShiftWave(w, v, u)
				wantWave(t, "ShiftWave", s, code, want, impl.ErrNone)
			}
		}
	}
}

// Promise 1: shifts undo each other.
func TestShiftsUndoEachOther(t *testing.T) {
	n := numbers{3}
	for _, side := range sides {
		w := n.wave(side, -149, 127)
		for _, shift := range [][2]int64{{1, 0}, {0, 1}, {-3, 5}, {64, -64}, {7, 7}} {
			s, code := impl.ShiftWave(w, shift[0], shift[1])
			if code != impl.ErrNone {
				t.Fatalf("ShiftWave: code %d", code)
			}
			back, code := impl.ShiftWave(s, -shift[0], -shift[1])
			wantWave(t, "ShiftWave back", back, code, w, impl.ErrNone)
		}
	}
}

func TestShiftWaveErrors(t *testing.T) {
	for _, bad := range [][2]int64{{65, 0}, {-65, 0}, {0, 65}, {0, -65}, {math.MinInt64, 0}, {0, math.MaxInt64}} {
		s, code := impl.ShiftWave(flat(4, 1), bad[0], bad[1])
		wantNoWave(t, "ShiftWave", s, code, impl.ErrRange)
		s, code = impl.ShiftWave(waveOf(1, 1, 1), bad[0], bad[1])
		wantNoWave(t, "ShiftWave", s, code, impl.ErrInvalid)
	}
	for _, w := range noWaves() {
		s, code := impl.ShiftWave(w, 0, 0)
		wantNoWave(t, "ShiftWave of no wave", s, code, impl.ErrInvalid)
	}
}
