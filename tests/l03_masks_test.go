package tests

import (
	"math"
	"slices"
	"testing"

	"loop.example/g01225/impl"
)

// A maker is a function that makes a wave of a side and of numbers.
type maker struct {
	name string
	make func(n int64, a []int64) (impl.Wave, int64)
	// limits tells the least and the greatest of the numbers that may follow those in a, and
	// whether there is one more.
	limits func(n int64, a []int64) (low, high int64, more bool)
	cell   func(a []int64, y, x int64) complex64
}

var makers = []maker{
	{
		"SlitMask", func(n int64, a []int64) (impl.Wave, int64) { return impl.SlitMask(n, a[0], a[1]) },
		func(n int64, a []int64) (int64, int64, bool) {
			if len(a) == 0 {
				return 0, n - 1, true
			}
			return 0, n - a[0], len(a) < 2
		},
		func(a []int64, y, x int64) complex64 {
			for column := a[0]; column <= a[0]+a[1]-1; column++ {
				if column == x {
					return 1
				}
			}
			return 0
		},
	},
	{
		"DiscMask", func(n int64, a []int64) (impl.Wave, int64) { return impl.DiscMask(n, a[0], a[1], a[2]) },
		limitsWithCentre(0, impl.MaxRadius),
		func(a []int64, y, x int64) complex64 { return oneIf(distance(a, y, x) <= float64(a[2])) },
	},
	{
		"GratingMask", func(n int64, a []int64) (impl.Wave, int64) { return impl.GratingMask(n, a[0], a[1]) },
		func(n int64, a []int64) (int64, int64, bool) {
			if len(a) == 0 {
				return 1, n, true
			}
			return 0, a[0], len(a) < 2
		},
		func(a []int64, y, x int64) complex64 { return oneIf(columnIn(a[0], x) < a[1]) },
	},
	{
		"CheckMask", func(n int64, a []int64) (impl.Wave, int64) { return impl.CheckMask(n, a[0]) },
		func(n int64, a []int64) (int64, int64, bool) { return 1, n, len(a) < 1 },
		func(a []int64, y, x int64) complex64 {
			p := float64(a[0])
			return oneIf(isEven(math.Floor(float64(y)/p) + math.Floor(float64(x)/p)))
		},
	},
	{
		"ZoneMask", func(n int64, a []int64) (impl.Wave, int64) { return impl.ZoneMask(n, a[0], a[1], a[2]) },
		limitsWithCentre(1, impl.MaxRadius),
		func(a []int64, y, x int64) complex64 {
			return oneIf(isEven(math.Floor(distance(a, y, x) / float64(a[2]))))
		},
	},
	{
		"BlazedWave", func(n int64, a []int64) (impl.Wave, int64) { return impl.BlazedWave(n, a[0], a[1]) },
		func(n int64, a []int64) (int64, int64, bool) {
			if len(a) == 0 {
				return 1, n, true
			}
			return -64, 64, len(a) < 2
		},
		func(a []int64, y, x int64) complex64 { return phaseAt(a[1] * columnIn(a[0], x)) },
	},
	{
		"LensWave", func(n int64, a []int64) (impl.Wave, int64) { return impl.LensWave(n, a[0], a[1], a[2]) },
		limitsWithCentre(-64, 64),
		func(a []int64, y, x int64) complex64 { return phaseAt(a[2] * int64(distance(a, y, x))) },
	},
}

// limitsWithCentre returns the limits of two numbers of a centre and of one more.
func limitsWithCentre(low, high int64) func(n int64, a []int64) (int64, int64, bool) {
	return func(n int64, a []int64) (int64, int64, bool) {
		if len(a) < 2 {
			return 0, 2 * (n - 1), true
		}
		return low, high, len(a) < 3
	}
}

func oneIf(isOne bool) complex64 {
	if isOne {
		return 1
	}
	return 0
}

func isEven(x float64) bool { return math.Mod(x, 2) == 0 }

// distance returns the distance from the centre that the first two numbers tell, found with
// halves of cells, which are exact.
func distance(a []int64, y, x int64) float64 {
	down, right := float64(y)-float64(a[0])/2, float64(x)-float64(a[1])/2
	return 4 * (down*down + right*right)
}

// columnIn returns the column within its period.
func columnIn(p, x int64) int64 {
	for x >= p {
		x -= p
	}
	return x
}

// phaseAt returns P(k).
func phaseAt(k int64) complex64 { return phases[(k%64+64)%64] }

// wanted returns the wave that a maker should make.
func (m maker) wanted(n int64, a []int64) impl.Wave {
	want := impl.Wave{Side: n}
	for y := range n {
		for x := range n {
			want.Cells[n*y+x] = m.cell(a, y, x)
		}
	}
	return want
}

// forNumbers calls use with all lists of allowed numbers that begin with a; of many it takes some.
func (m maker) forNumbers(n int64, a []int64, use func(a []int64)) {
	low, high, more := m.limits(n, a)
	if !more {
		use(a)
		return
	}
	for k := low; k <= high; k++ {
		if k > 66 && k < 390 && k%13 != 0 || k > 393 && k < high {
			continue
		}
		m.forNumbers(n, append(slices.Clone(a), k), use)
	}
}

func TestMakers(t *testing.T) {
	for _, m := range makers {
		for _, side := range sides {
			count := 0
			m.forNumbers(side, nil, func(a []int64) {
				count++
				if w, code := m.make(side, a); w != m.wanted(side, a) || code != impl.ErrNone {
					t.Errorf("%s(%d, %v) = %v, %d; want %v", m.name, side, a, w, code, m.wanted(side, a))
				}
			})
			if count == 0 {
				t.Errorf("%s of the side %d has no numbers", m.name, side)
			}
		}
	}
}

// Numbers just outside their ranges, and far outside, each beside others that are allowed.
func TestNumbersOutOfRange(t *testing.T) {
	for _, m := range makers {
		for _, side := range sides {
			m.forNumbers(side, nil, func(a []int64) {
				for i := range a {
					low, high, _ := m.limits(side, a[:i])
					if a[i] != low && a[i] != high {
						return
					}
				}
				for i := range a {
					low, high, _ := m.limits(side, a[:i])
					for _, k := range []int64{low - 1, high + 1, low - 64, high + 1<<32, math.MinInt64, math.MaxInt64} {
						bad := slices.Clone(a)
						bad[i] = k
						w, code := m.make(side, bad)
						wantNoWave(t, m.name, w, code, impl.ErrRange)
					}
				}
			})
		}
	}
}

func TestSidesOfMakers(t *testing.T) {
	for _, m := range makers {
		for _, side := range []int64{
			0, -1, -2, -4, -8, 3, 5, 6, 7, 9, 12, 16, 64, 1 << 32, 1<<32 + 8, 1 << 62, math.MinInt64, math.MinInt64 + 8, math.MaxInt64,
		} {
			for _, numbers := range [][]int64{{0, 0, 0}, {0, 0, 1}, {1, 0, 0}, {1, 1, 1}, {2, 1, 4}, {-1, 0, 0}, {0, 2000, 0}} {
				w, code := m.make(side, numbers)
				wantNoWave(t, m.name+" of no side", w, code, impl.ErrRange)
			}
		}
	}
}

// The document's examples of discs and lenses are among these.
func TestMakersByHand(t *testing.T) {
	p := impl.PhaseOf
	for _, c := range []struct {
		name string
		n    int64
		a    []int64
		want impl.Wave
	}{
		{"SlitMask", 1, []int64{0, 0}, flat(1, 0)},
		{"SlitMask", 1, []int64{0, 1}, flat(1, 1)},
		{"SlitMask", 4, []int64{1, 2}, waveOf(4, 0, 1, 1, 0, 0, 1, 1, 0, 0, 1, 1, 0, 0, 1, 1)},
		{"SlitMask", 4, []int64{3, 1}, waveOf(4, 0, 0, 0, 1, 0, 0, 0, 1, 0, 0, 0, 1, 0, 0, 0, 1)},
		{"SlitMask", 4, []int64{3, 0}, flat(4, 0)},
		{"SlitMask", 8, []int64{0, 8}, flat(8, 1)},
		{"DiscMask", 2, []int64{1, 1, 2}, flat(2, 1)},
		{"DiscMask", 2, []int64{1, 1, 1}, flat(2, 0)},
		{"DiscMask", 2, []int64{2, 0, 4}, waveOf(2, 1, 0, 1, 1)},
		{"DiscMask", 2, []int64{0, 1, 1}, waveOf(2, 1, 1)},
		{"DiscMask", 2, []int64{0, 2, 0}, waveOf(2, 0, 1)},
		{"DiscMask", 8, []int64{0, 0, 391}, waveButLast(8)},
		{"DiscMask", 8, []int64{0, 0, 392}, flat(8, 1)},
		{"GratingMask", 4, []int64{2, 1}, waveOf(4, 1, 0, 1, 0, 1, 0, 1, 0, 1, 0, 1, 0, 1, 0, 1)},
		{"GratingMask", 4, []int64{3, 2}, waveOf(4, 1, 1, 0, 1, 1, 1, 0, 1, 1, 1, 0, 1, 1, 1, 0, 1)},
		{"GratingMask", 4, []int64{3, 0}, flat(4, 0)},
		{"GratingMask", 4, []int64{3, 3}, flat(4, 1)},
		{"CheckMask", 4, []int64{1}, waveOf(4, 1, 0, 1, 0, 0, 1, 0, 1, 1, 0, 1, 0, 0, 1, 0, 1)},
		{"CheckMask", 4, []int64{2}, waveOf(4, 1, 1, 0, 0, 1, 1, 0, 0, 0, 0, 1, 1, 0, 0, 1, 1)},
		{"CheckMask", 4, []int64{3}, waveOf(4, 1, 1, 1, 0, 1, 1, 1, 0, 1, 1, 1, 0, 0, 0, 0, 1)},
		{"CheckMask", 4, []int64{4}, flat(4, 1)},
		{"ZoneMask", 2, []int64{0, 0, 4}, waveOf(2, 1, 0, 0, 1)},
		{"ZoneMask", 2, []int64{0, 2, 8}, waveOf(2, 1, 1, 0, 1)},
		{"ZoneMask", 2, []int64{0, 2, 9}, flat(2, 1)},
		{"ZoneMask", 2, []int64{1, 1, 1}, flat(2, 1)},
		{"ZoneMask", 2, []int64{1, 1, 2}, flat(2, 0)},
		{"ZoneMask", 2, []int64{0, 0, 1}, flat(2, 1)},
		{"BlazedWave", 4, []int64{3, 5}, waveOf(4, 1, p(5), p(10), 1, 1, p(5), p(10), 1, 1, p(5), p(10), 1, 1, p(5), p(10), 1)},
		{"BlazedWave", 2, []int64{2, -16}, waveOf(2, 1, -1i, 1, -1i)},
		{"BlazedWave", 8, []int64{8, 64}, flat(8, 1)},
		{"BlazedWave", 8, []int64{1, 7}, flat(8, 1)},
		{"LensWave", 2, []int64{0, 0, 4}, waveOf(2, 1, 1i, 1i, -1)},
		{"LensWave", 2, []int64{0, 1, 1}, waveOf(2, p(1), p(1), p(5), p(5))},
		{"LensWave", 2, []int64{2, 0, -4}, waveOf(2, -1i, -1, 1, -1i)},
		{"LensWave", 2, []int64{1, 1, -64}, flat(2, 1)},
		{"LensWave", 1, []int64{0, 0, 3}, flat(1, 1)},
	} {
		for _, m := range makers {
			if m.name == c.name {
				w, code := m.make(c.n, c.a)
				wantWave(t, c.name, w, code, c.want, impl.ErrNone)
			}
		}
	}
}

// waveButLast returns the mask of a side with all cells open but the last one.
func waveButLast(side int64) impl.Wave {
	w := flat(side, 1)
	w.Cells[side*side-1] = 0
	return w
}

func TestMaxRadius(t *testing.T) {
	if impl.MaxRadius != 1000 {
		t.Errorf("MaxRadius = %d", impl.MaxRadius)
	}
}

// All that is made is a wave, with all further cells 0, and a mask unless it has phases.
func TestMadeWavesAreMasks(t *testing.T) {
	for _, m := range makers {
		for _, side := range sides {
			m.forNumbers(side, nil, func(a []int64) {
				w, _ := m.make(side, a)
				for _, z := range w.Cells[side*side:] {
					if z != 0 {
						t.Errorf("%s(%d, %v) = %v has further cells", m.name, side, a, w)
					}
				}
				isMask := m.name != "BlazedWave" && m.name != "LensWave"
				if !impl.IsWave(w) || isMask && !impl.IsMask(w) {
					t.Errorf("%s(%d, %v) = %v is no mask", m.name, side, a, w)
				}
			})
		}
	}
}
