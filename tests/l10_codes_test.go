package tests

import (
	"math"
	"math/bits"
	"slices"
	"testing"

	"loop.example/g01225/impl"
)

// noLengths are whole numbers that are no lengths of codes of Walsh.
var noLengths = []int64{
	0, 3, 5, 6, 7, 9, 12, 24, 31, 33, 48, 63, 65, 96, 127, 128, 256, 1 << 32, 1<<32 + 8, 1 << 62,
	-1, -2, -8, -64, math.MinInt64, math.MinInt64 + 64, math.MaxInt64 - 63, math.MaxInt64,
}

// wantWalsh compares a code of Walsh with a list and a code.
func wantWalsh(t *testing.T, n, k int64, want []float32, wantCode int64) {
	t.Helper()
	if list, code := impl.WalshCode(n, k); !slices.Equal(list, want) || code != wantCode {
		t.Errorf("WalshCode(%d, %d) = %v, %d; want %v, %d", n, k, list, code, want, wantCode)
	}
}

// wantCodeWave compares the wave of a code with a wave and a code.
func wantCodeWave(t *testing.T, n, k int64, want impl.Wave, wantCode int64) {
	t.Helper()
	w, code := impl.CodeWave(n, k)
	wantWave(t, "CodeWave", w, code, want, wantCode)
}

// wantLegendre compares a code of Legendre with a list and a code.
func wantLegendre(t *testing.T, p int64, want []float32, wantCode int64) {
	t.Helper()
	if list, code := impl.LegendreCode(p); !slices.Equal(list, want) || code != wantCode {
		t.Errorf("LegendreCode(%d) = %v, %d; want %v, %d", p, list, code, want, wantCode)
	}
}

// wantBalanced compares whether a list is balanced with what is wanted.
func wantBalanced(t *testing.T, a []float32, want bool, wantCode int64) {
	t.Helper()
	if isBalanced, code := impl.IsBalanced(a); isBalanced != want || code != wantCode {
		t.Errorf("IsBalanced(%v) = %t, %d; want %t, %d", a, isBalanced, code, want, wantCode)
	}
}

func TestCodeConstants(t *testing.T) {
	if impl.MaxCode != 64 {
		t.Errorf("MaxCode = %d", impl.MaxCode)
	}
}

// The codes of Walsh have 1 where the digits that k and j have in common are even in number, and
// those of different k are orthogonal.
func TestWalshCodes(t *testing.T) {
	for _, n := range codeLengths {
		for k := range n {
			wantWalsh(t, n, k, walshList(n, k), impl.ErrNone)
			code, _ := impl.WalshCode(n, k)
			for j, x := range code {
				if isEven := bits.OnesCount(uint(j)&uint(k))%2 == 0; isEven != (x == 1) || !isEven != (x == -1) {
					t.Errorf("the code %d of the length %d has %v at %d", k, n, x, j)
				}
			}
			for other := range n {
				second, _ := impl.WalshCode(n, other)
				product := 0
				for j, x := range code {
					product += int(x) * int(second[j])
				}
				if other != k && product != 0 || other == k && product != int(n) {
					t.Errorf("the product of the codes %d and %d of the length %d is %d", k, other, n, product)
				}
			}
		}
	}
}

// The example of the document, and what can be found in one's head.
func TestWalshCodesByHand(t *testing.T) {
	wantWalsh(t, 4, 3, []float32{1, -1, -1, 1}, impl.ErrNone)
	wantWalsh(t, 1, 0, []float32{1}, impl.ErrNone)
	wantWalsh(t, 2, 0, []float32{1, 1}, impl.ErrNone)
	wantWalsh(t, 2, 1, []float32{1, -1}, impl.ErrNone)
	wantWalsh(t, 4, 1, []float32{1, -1, 1, -1}, impl.ErrNone)
	wantWalsh(t, 4, 2, []float32{1, 1, -1, -1}, impl.ErrNone)
	wantWalsh(t, 8, 5, []float32{1, -1, 1, -1, -1, 1, -1, 1}, impl.ErrNone)
	wantWalsh(t, 8, 7, []float32{1, -1, -1, 1, -1, 1, 1, -1}, impl.ErrNone)
	wantWalsh(t, 64, 32, slices.Concat(repeated(32, 1), repeated(32, -1)), impl.ErrNone)
}

func TestErrorsOfWalshCodes(t *testing.T) {
	for _, n := range noLengths {
		for _, k := range append(outside(0, 63), -1, 0, 1, 63, n-1, n) {
			wantWalsh(t, n, k, nil, impl.ErrRange)
		}
	}
	for _, n := range codeLengths {
		for _, k := range append(outside(0, n-1), -1, n, math.MinInt64, math.MaxInt64, 1<<32, -n) {
			wantWalsh(t, n, k, nil, impl.ErrRange)
		}
	}
}

// The cells of the wave of a code are the code, in order, and all others are 0.
func TestCodeWaves(t *testing.T) {
	for _, side := range sides {
		for k := range side * side {
			want := impl.Wave{Side: side}
			for j := range side * side {
				want.Cells[j] = complex(walshSign(k, j), 0)
			}
			wantCodeWave(t, side, k, want, impl.ErrNone)
			w, _ := impl.CodeWave(side, k)
			results{waves: []impl.Wave{w}}.wantOnSide(t, side)
		}
	}
	wantCodeWave(t, 1, 0, waveOf(1, 1), impl.ErrNone)
	wantCodeWave(t, 2, 1, waveOf(2, 1, -1, 1, -1), impl.ErrNone)
	wantCodeWave(t, 2, 2, waveOf(2, 1, 1, -1, -1), impl.ErrNone)
	wantCodeWave(t, 2, 3, waveOf(2, 1, -1, -1, 1), impl.ErrNone)
	wantCodeWave(t, 4, 4, waveOf(4, 1, 1, 1, 1, -1, -1, -1, -1, 1, 1, 1, 1, -1, -1, -1, -1), impl.ErrNone)
	wantCodeWave(t, 8, 0, flat(8, 1), impl.ErrNone)
}

func TestErrorsOfCodeWaves(t *testing.T) {
	for _, side := range noSides {
		for _, k := range append(outside(0, 63), -1, 0, 1, 63, side*side-1, side*side) {
			wantCodeWave(t, side, k, impl.Wave{}, impl.ErrRange)
		}
	}
	for _, side := range sides {
		for _, k := range append(outside(0, side*side-1), -1, side*side, math.MinInt64, math.MaxInt64) {
			wantCodeWave(t, side, k, impl.Wave{}, impl.ErrRange)
		}
	}
}

// The codes of Legendre have 1 at 0 and at the remainders of squares, of which there are
// (p + 1) / 2.
func TestLegendreCodes(t *testing.T) {
	for _, p := range codePrimes {
		wantLegendre(t, p, legendreList(p), impl.ErrNone)
		want := repeated(p, -1)
		for x := range 3 * p {
			want[x*x%p] = 1
		}
		wantLegendre(t, p, want, impl.ErrNone)
		ones := int64(0)
		for _, x := range want {
			if x == 1 {
				ones++
			}
		}
		if ones != (p+1)/2 {
			t.Errorf("%d ones for %d", ones, p)
		}
	}
	wantLegendre(t, 7, []float32{1, 1, 1, -1, 1, -1, -1}, impl.ErrNone)
	wantLegendre(t, 3, []float32{1, 1, -1}, impl.ErrNone)
	wantLegendre(t, 11, []float32{1, 1, -1, 1, 1, 1, -1, -1, -1, 1, -1}, impl.ErrNone)
}

func TestErrorsOfLegendreCodes(t *testing.T) {
	for p := int64(-100); p <= 1000; p++ {
		if !slices.Contains(codePrimes, p) {
			wantLegendre(t, p, nil, impl.ErrRange)
		}
	}
	for _, p := range append(outside(3, 31), 1<<32+3, 1<<32+7, math.MinInt64+7, 1<<62+31, -1<<62) {
		wantLegendre(t, p, nil, impl.ErrRange)
	}
}

// signsOf returns the list of a length with -1 where a digit is 1.
func signsOf(length int, digits uint64) (list []float32) {
	for i := range length {
		list = append(list, 1-2*float32(digits>>i&1))
	}
	return list
}

// isEvenlyRelated reports whether a list of 1 and -1 is balanced: it is different from itself at
// equally many places, however far it is moved.
func isEvenlyRelated(list []float32) bool {
	counts := map[int]bool{}
	for k := 1; k < len(list); k++ {
		differences := 0
		for j, x := range list {
			if x != list[(j+k)%len(list)] {
				differences++
			}
		}
		counts[differences] = true
	}
	return len(counts) <= 1
}

// All short lists of 1 and -1, and some long ones.
func TestBalancedLists(t *testing.T) {
	found := map[bool]int{}
	for length := 1; length <= 11; length++ {
		for digits := range uint64(1) << length {
			list := signsOf(length, digits)
			wantBalanced(t, list, isEvenlyRelated(list), impl.ErrNone)
			found[isEvenlyRelated(list)]++
		}
	}
	if found[true] < 100 || found[false] < 1000 {
		t.Errorf("balanced lists: %v", found)
	}
	n := numbers{500}
	for length := 12; length <= 64; length++ {
		for range 5 {
			list := signsOf(length, n.bits()<<31^n.bits()<<62^n.bits())
			wantBalanced(t, list, isEvenlyRelated(list), impl.ErrNone)
		}
	}
}

func TestBalancedListsByHand(t *testing.T) {
	for _, list := range [][]float32{
		{1}, {-1}, {1, 1}, {1, -1}, {-1, 1}, {-1, -1}, {1, 1, 1, -1}, {-1, 1, -1, -1},
		{1, 1, 1, 1, 1, -1, -1, 1, 1, -1, 1, -1, 1}, {-1, -1, -1, 1, -1, 1, 1},
	} {
		wantBalanced(t, list, true, impl.ErrNone)
	}
	for _, list := range [][]float32{{1, 1, -1, -1}, {1, -1, 1, -1}, {1, 1, -1, -1, 1}, {1, 1, 1, 1, -1, -1, -1}} {
		wantBalanced(t, list, false, impl.ErrNone)
	}
	for _, length := range oneToLength(64) {
		wantBalanced(t, repeated(length, 1), true, impl.ErrNone)
		wantBalanced(t, repeated(length, -1), true, impl.ErrNone)
		for place := range length {
			// One -1 differs from what is further on at two places, wherever it is.
			wantBalanced(t, repeatedBut(length, 1, place, -1), true, impl.ErrNone)
		}
	}
	wantBalanced(t, walshList(64, 63), false, impl.ErrNone)
	two := repeatedBut(64, 1, 0, -1)
	two[40] = -1
	wantBalanced(t, two, false, impl.ErrNone)
}

// Guarantee: codes of Legendre are balanced: their correlations are p at 0, and elsewhere -1.
func TestLegendreCodesAreBalanced(t *testing.T) {
	for _, p := range codePrimes {
		code, _ := impl.LegendreCode(p)
		wantBalanced(t, code, true, impl.ErrNone)
		wantCorrelation(t, code, code, repeatedBut(p, -1, 0, float32(p)), impl.ErrNone)
		for place := range p {
			other := slices.Clone(code)
			other[place] = -other[place]
			wantBalanced(t, other, isEvenlyRelated(other), impl.ErrNone)
		}
	}
}

// A list with a number that is neither 1 nor -1 is not balanced, even if its correlation is the same
// number everywhere, and it is not asked for a correlation that would be too great.
func TestListsOfOtherNumbers(t *testing.T) {
	others := []float32{
		0, zeroBelow, 2, -2, 0.5, least, -least, most, -most, 0x1p64, 1 + 0x1p-23, 1 - 0x1p-24, -1 - 0x1p-23, -1 + 0x1p-24,
	}
	for _, length := range []int64{1, 2, 3, 7, 63, 64} {
		for _, x := range others {
			wantBalanced(t, repeated(length, x), false, impl.ErrNone)
			for place := range length {
				wantBalanced(t, repeatedBut(length, 1, place, x), false, impl.ErrNone)
				wantBalanced(t, repeatedBut(length, most, place, x), false, impl.ErrNone)
				wantBalanced(t, repeatedBut(length, x, place, -1), length == 1, impl.ErrNone)
			}
		}
	}
}
