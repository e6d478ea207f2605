package tests

import (
	"slices"
	"testing"

	"loop.example/g01225/impl"
)

// wantTalk compares the cross talk of codes with a table and a code.
func wantTalk(t *testing.T, codes []impl.Wave, want [][]complex64, wantCode int64) {
	t.Helper()
	if table, code := impl.CrossTalk(codes); !slices.EqualFunc(table, want, slices.Equal) || code != wantCode {
		t.Errorf("CrossTalk(%v) = %v, %d; want %v, %d", codes, table, code, want, wantCode)
	}
}

// wantOrthogonal compares whether codes are orthogonal with a bool and a code.
func wantOrthogonal(t *testing.T, codes []impl.Wave, want bool, wantCode int64) {
	t.Helper()
	if got, code := impl.AreOrthogonal(codes); got != want || code != wantCode {
		t.Errorf("AreOrthogonal(%v) = %t, %d; want %t, %d", codes, got, code, want, wantCode)
	}
}

// wantMissOfPage compares the error of two pages, in both orders, with a number and a code.
func wantMissOfPage(t *testing.T, page, other impl.Wave, want float32, wantCode int64) {
	t.Helper()
	for _, pair := range [][2]impl.Wave{{page, other}, {other, page}} {
		if x, code := impl.ErrorOfPage(pair[0], pair[1]); x != want || code != wantCode {
			t.Errorf("ErrorOfPage(%v, %v) = %v, %d; want %v, %d", pair[0], pair[1], x, code, want, wantCode)
		}
	}
}

// wantBestCode compares the index of the best code for a store with an index and a code.
func wantBestCode(t *testing.T, store impl.Wave, codes []impl.Wave, want, wantCode int64) {
	t.Helper()
	if k, code := impl.BestCode(store, codes); k != want || code != wantCode {
		t.Errorf("BestCode(%v, %v) = %d, %d; want %d, %d", store, codes, k, code, want, wantCode)
	}
}

// walshWaves returns the waves of codes of Walsh for a side and some numbers.
func walshWaves(t *testing.T, side int64, ks ...int64) (codes []impl.Wave) {
	t.Helper()
	for _, k := range ks {
		w, code := impl.CodeWave(side, k)
		wantNone(t, "CodeWave", code)
		codes = append(codes, w)
	}
	return codes
}

// codeRanges are sizes of codes: usual ones, such whose products are small, and great ones.
var codeRanges = [][2]int{{-3, 3}, {-30, 30}, {-77, -70}, {-76, -73}, {-149, -120}, {55, 62}, {60, 64}, {120, 127}}

func TestCrossTalkExactly(t *testing.T) {
	n, codes := numbers{620}, map[int64]int{}
	for _, r := range codeRanges {
		for _, side := range sides {
			for _, count := range []int{1, 2, 3, 5} {
				list, exact, other := n.waves(count, side, r[0], r[1]), calculation{}, calculation{}
				want, wantCode := exact.talk(list)
				wantTalk(t, list, want, wantCode)
				are, areCode := other.orthogonal(list)
				wantOrthogonal(t, list, are, areCode)
				codes[wantCode]++
			}
		}
	}
	list, exact := n.waves(16, 2, -3, 3), calculation{}
	want, wantCode := exact.talk(list)
	wantTalk(t, list, want, wantCode)
	if codes[impl.ErrNone] < 60 || codes[impl.ErrLimit] < 20 {
		t.Errorf("codes of cross talk: %v", codes)
	}
}

// Each code has a list for all of them, in their order; the conjugate is that of the first one.
func TestCrossTalkByHand(t *testing.T) {
	wantTalk(t, single(3+4i), [][]complex64{{25}}, impl.ErrNone)
	wantTalk(t, single(1, 1i, 2), [][]complex64{{1, 1i, 2}, {-1i, 1, -2i}, {2, 2i, 4}}, impl.ErrNone)
	wantTalk(t, []impl.Wave{waveOf(2, 1, 1, 1, 1), waveOf(2, 1, -1, -1, 1), waveOf(2, 1i, 2, 0, 0)}, [][]complex64{
		{1, 0, 0.5 + 0.25i},
		{0, 1, -0.5 + 0.25i},
		{0.5 - 0.25i, -0.5 - 0.25i, 1.25},
	}, impl.ErrNone)
	for _, side := range sides {
		for count := 1; count <= 16; count++ {
			// The code at the place i has i + 1 in all cells, and the talk has no trace of the side.
			var codes []impl.Wave
			var want [][]complex64
			for i := range count {
				codes, want = append(codes, flat(side, complex(float32(i+1), 0))), append(want, make([]complex64, count))
				for j := range count {
					want[i][j] = complex(float32((i+1)*(j+1)), 0)
				}
			}
			wantTalk(t, codes, want, impl.ErrNone)
			for i := range codes {
				codes[i] = flat(side, complex(0, float32(i+1)))
			}
			wantTalk(t, codes, want, impl.ErrNone)
		}
	}
	// Quotients below the normal numbers are rounded, the inner products before them, too.
	small := []impl.Wave{flat(2, 1), flat(2, least), waveOf(2, least), waveOf(2, 3*least*1i)}
	wantTalk(t, small, [][]complex64{{1, least, 0, least * 1i}, {least, 0, 0, 0}, {0, 0, 0, 0}, {-least * 1i, 0, 0, 0}}, impl.ErrNone)
	wantTalk(t, []impl.Wave{flat(2, 0x1p62), waveOf(2, 0x1.fffffep63)}, [][]complex64{{0x1p124, 0x1.fffffep123}, {0x1.fffffep123, 0x1.fffffcp125}}, impl.ErrNone)
}

// Inner products are sums in the order of the cells, of products that are rounded.
func TestOrderOfCrossTalk(t *testing.T) {
	const great = 1 << 24
	falling, rising := waveOf(2, great, 1, 1, 1), waveOf(2, 1, 1, 1, great)
	talk := func(first, second impl.Wave) complex64 {
		table, code := impl.CrossTalk([]impl.Wave{first, second})
		wantNone(t, "CrossTalk", code)
		return table[0][1]
	}
	if z := talk(falling, flat(2, 1)); z != great/4 {
		t.Errorf("the cross talk is %v", z)
	}
	if z := talk(rising, flat(2, 1i)); z != (great/4+1)*1i {
		t.Errorf("the cross talk is %v", z)
	}
	if z := talk(waveOf(2, 1, great, -great, 1), flat(2, 1)); z != 0.25 {
		t.Errorf("the cross talk is %v", z)
	}
	wantOrthogonal(t, []impl.Wave{waveOf(2, 1, great, -great), flat(2, 1)}, true, impl.ErrNone)
	wantOrthogonal(t, []impl.Wave{waveOf(2, 1, great, 1, -great), flat(2, 1)}, true, impl.ErrNone)
	wantOrthogonal(t, []impl.Wave{waveOf(2, great, -great, 1), flat(2, 1)}, false, impl.ErrNone)
}

// Codes of Walsh, of whatever side and in whatever order, are orthogonal as long as there is none
// twice.
func TestCodesOfWalshAreOrthogonal(t *testing.T) {
	n := numbers{621}
	for _, side := range sides {
		for count := int64(1); count <= min(16, side*side); count++ {
			codes := walshWaves(t, side, n.some(count, side*side)...)
			wantOrthogonal(t, codes, true, impl.ErrNone)
			want := make([][]complex64, count)
			for i := range want {
				want[i] = make([]complex64, count)
				want[i][i] = 1
			}
			wantTalk(t, codes, want, impl.ErrNone)
			if count == 16 {
				continue
			}
			for place := range codes {
				// The same code, and its opposite, once more.
				w := codes[place]
				wantOrthogonal(t, append(slices.Clone(codes), w), false, impl.ErrNone)
				wantOrthogonal(t, slices.Insert(slices.Clone(codes), 0, turnedBy(w, func(z complex64) complex64 { return -z })), false, impl.ErrNone)
			}
		}
	}
}

// some returns as many of the numbers 0 to limit - 1 as told, no two of them equal, in some order.
func (n *numbers) some(count, limit int64) []int64 {
	list := upwards(limit)
	for i := range list {
		j := i + int(n.bits()%uint64(len(list)-i))
		list[i], list[j] = list[j], list[i]
	}
	return list[:count]
}

// One pair of codes that have an inner product is enough, whichever they are.
func TestOnePairIsNotOrthogonal(t *testing.T) {
	for _, count := range []int64{2, 3, 16} {
		codes := walshWaves(t, 4, upwards(count)...)
		for i := range codes {
			for j := range i {
				// Behind this change the codes i and j have the inner product 2 z, or its conjugate.
				for _, z := range []complex64{1, 1i, -1i, least, least * 1i} {
					list := make([]impl.Wave, count)
					for k := range list {
						list[k] = waveBut(8, 0, int64(k), 1)
					}
					list[i].Cells[63], list[j].Cells[63] = z, 1
					wantOrthogonal(t, list, false, impl.ErrNone)
					list[j].Cells[63] = 0
					wantOrthogonal(t, list, true, impl.ErrNone)
				}
				list := slices.Clone(codes)
				list[i] = codes[j]
				wantOrthogonal(t, list, false, impl.ErrNone)
			}
		}
		wantOrthogonal(t, codes, true, impl.ErrNone)
	}
}

func TestOrthogonalCodesByHand(t *testing.T) {
	for _, z := range []complex64{0, 1, 1i, -2 + 3i, least, 0x1.fffffep63} {
		wantOrthogonal(t, single(z), true, impl.ErrNone)
		wantOrthogonal(t, single(z, 0), true, impl.ErrNone)
		wantOrthogonal(t, single(0, z, 0, 0), true, impl.ErrNone)
	}
	// Codes of zeros are orthogonal to themselves as well, and so are such whose products are too
	// small.
	wantOrthogonal(t, slices.Repeat(single(0), 16), true, impl.ErrNone)
	wantOrthogonal(t, single(0x1p-75, 0x1p-75), true, impl.ErrNone)
	wantOrthogonal(t, single(0x1.8p-75, 0x1p-75), false, impl.ErrNone)
	wantOrthogonal(t, single(1, 1), false, impl.ErrNone)
	wantOrthogonal(t, single(1, 1i), false, impl.ErrNone)
	// Both parts have to be 0, with the conjugate of the first code.
	wantOrthogonal(t, []impl.Wave{waveOf(2, 1, 1i), waveOf(2, 1, -1i)}, true, impl.ErrNone)
	wantOrthogonal(t, []impl.Wave{waveOf(2, 1, 1i), waveOf(2, 1, 1i)}, false, impl.ErrNone)
	wantOrthogonal(t, []impl.Wave{waveOf(2, 1, 1i), waveOf(2, 1, 1)}, false, impl.ErrNone)
	wantOrthogonal(t, []impl.Wave{waveOf(2, 1, 1), waveOf(2, 1i, -1)}, false, impl.ErrNone)
	// An inner product that is 0 only after it is divided is not 0.
	for _, side := range []int64{2, 4, 8} {
		wantOrthogonal(t, []impl.Wave{waveOf(side, 1), waveOf(side, least)}, false, impl.ErrNone)
		wantOrthogonal(t, []impl.Wave{waveOf(side, least*1i), waveOf(side, 1)}, false, impl.ErrNone)
		wantTalk(t, []impl.Wave{waveOf(side, 1), waveOf(side, least)}, [][]complex64{{complex(1/float32(side*side), 0), 0}, {0, 0}}, impl.ErrNone)
	}
}

// An inner product that is not finite is ErrLimit, that of a code with itself, too, whether or not
// other codes are orthogonal.
func TestLimitsOfCrossTalk(t *testing.T) {
	for _, side := range sides {
		for _, count := range []int{1, 2, 3, 16} {
			for _, place := range []int{0, count / 2, count - 1} {
				for _, turn := range []complex64{1, 1i, -1, -1i} {
					great := waveBut(side, 0, side*side-1, 0x1p64*turn)
					for _, z := range []complex64{0, 1} {
						codes := slices.Repeat([]impl.Wave{waveBut(side, 0, 0, z)}, count)
						codes[place] = great
						wantTalk(t, codes, nil, impl.ErrLimit)
						wantOrthogonal(t, codes, false, impl.ErrLimit)
						codes[place] = waveBut(side, 0, side*side-1, 0x1.fffffep63*turn)
						areOrthogonal := count == 1 || z == 0 || count == 2 && side > 1
						wantOrthogonal(t, codes, areOrthogonal, impl.ErrNone)
					}
				}
			}
		}
	}
	// Sums of inner products that are finite one by one: 2^128 is too much, and 13/16 of it is not.
	wantOrthogonal(t, []impl.Wave{waveOf(2, 0x1p63, 0x1p63, 0x1p63, 0x1p63), waveOf(2)}, false, impl.ErrLimit)
	wantTalk(t, []impl.Wave{waveOf(2), flat(2, 0x1p63i)}, nil, impl.ErrLimit)
	wantTalk(t, []impl.Wave{waveOf(2, 0x1p63, 0x1p63, 0x1p63, 0x1p62), waveOf(2)}, [][]complex64{{0x1.ap125, 0}, {0, 0}}, impl.ErrNone)
}

func TestErrorsOfPagesExactly(t *testing.T) {
	n, codes := numbers{622}, map[int64]int{}
	for _, r := range append(slices.Clone(ranges), [2]int{126, 127}, [2]int{-149, 127}) {
		for _, side := range sides {
			for range 12 {
				page, other, exact := n.wave(side, r[0], r[1]), n.wave(side, r[0], r[1]), calculation{}
				want, wantCode := exact.missOfPage(page, other)
				wantMissOfPage(t, page, other, want, wantCode)
				codes[wantCode]++
			}
		}
	}
	if codes[impl.ErrNone] < 200 || codes[impl.ErrLimit] < 30 {
		t.Errorf("codes of errors of pages: %v", codes)
	}
}

// The greatest difference may be in the real or the imaginary part of any cell, and be negative.
func TestErrorsOfPagesByHand(t *testing.T) {
	wantMissOfPage(t, waveOf(1, 3+1i), waveOf(1, -2), 5, impl.ErrNone)
	wantMissOfPage(t, waveOf(1, 3+1i), waveOf(1, 3-1i), 2, impl.ErrNone)
	for _, side := range sides {
		for place := range side * side {
			for _, z := range []complex64{4, -4, 4i, -4i, 4 + 3i, -3 - 4i} {
				wantMissOfPage(t, waveBut(side, 1+2i, place, 1+2i+z), flat(side, 1+2i), 4, impl.ErrNone)
				wantMissOfPage(t, waveBut(side, 3+3i, place, z), flat(side, 0), 4, impl.ErrNone)
				wantMissOfPage(t, waveBut(side, 3-2i, place, z+1), waveBut(side, 0, place, 1), 4, impl.ErrNone)
			}
			wantMissOfPage(t, waveBut(side, 1, place, 1+least*1i), flat(side, 1), least, impl.ErrNone)
			wantMissOfPage(t, waveBut(side, 0, place, -least), flat(side, 0), least, impl.ErrNone)
			wantMissOfPage(t, waveBut(side, minusZero, place, 0), waveBut(side, 0, place, minusZero), 0, impl.ErrNone)
			for _, turn := range []complex64{1, 1i, -1, -1i} {
				wantMissOfPage(t, waveBut(side, 1, place, most*turn), flat(side, 1), most, impl.ErrNone)
				wantMissOfPage(t, waveBut(side, 1, place, most*turn), waveBut(side, 1, place, -0x1.fffffep102*turn), most, impl.ErrNone)
				wantMissOfPage(t, waveBut(side, 1, place, most*turn), waveBut(side, 1, place, -0x1p103*turn), 0, impl.ErrLimit)
				wantMissOfPage(t, waveBut(side, 1, place, most*turn), waveBut(side, 1, place, -most*turn), 0, impl.ErrLimit)
			}
		}
		wantMissOfPage(t, flat(side, most), flat(side, most), 0, impl.ErrNone)
	}
	// The parts are looked at one by one, and their differences are rounded.
	wantMissOfPage(t, waveOf(1, 3+4i), waveOf(1, 0), 4, impl.ErrNone)
	wantMissOfPage(t, waveOf(1, 1<<24), waveOf(1, -1), 1<<24, impl.ErrNone)
	wantMissOfPage(t, waveOf(1, 1<<24), waveOf(1, -3), 1<<24+4, impl.ErrNone)
}

func TestBestCodesExactly(t *testing.T) {
	n, codes, indexes := numbers{623}, map[int64]int{}, map[int64]bool{}
	for _, r := range [][4]int{{-3, 3, -3, 3}, {-30, 30, -30, 30}, {-40, -36, -40, -36}, {-76, -70, -3, 3}, {30, 34, 26, 30}, {60, 64, 60, 64}} {
		forStores(func(side, c int64) {
			for _, count := range []int{1, 2, 3, 5} {
				store, list, exact := n.wave(side, r[2], r[3]), n.waves(count, c, r[0], r[1]), calculation{}
				want, wantCode := exact.best(store, list)
				wantBestCode(t, store, list, want, wantCode)
				codes[wantCode]++
				indexes[want] = true
			}
		})
	}
	store, list, exact := n.wave(4, -3, 3), n.waves(16, 2, -3, 3), calculation{}
	want, wantCode := exact.best(store, list)
	wantBestCode(t, store, list, want, wantCode)
	if codes[impl.ErrNone] < 100 || codes[impl.ErrLimit] < 30 || len(indexes) < 4 {
		t.Errorf("codes of best codes: %v; indexes: %v", codes, indexes)
	}
}

func TestBestCodesByHand(t *testing.T) {
	forStores(func(side, c int64) {
		for count := 1; count <= 16; count++ {
			// Equal codes, and such that read pages of the same energy, are all as good.
			codes := slices.Repeat([]impl.Wave{flat(c, 1)}, count)
			wantBestCode(t, flat(side, 1), codes, 0, impl.ErrNone)
			wantBestCode(t, flat(side, 0), codes, 0, impl.ErrNone)
			for i := range codes {
				codes[i] = flat(c, []complex64{1, 1i, -1, -1i}[i%4])
			}
			wantBestCode(t, flat(side, 2-3i), codes, 0, impl.ErrNone)
			for place := range count {
				codes[place] = flat(c, 2i)
				wantBestCode(t, flat(side, 1), codes, int64(place), impl.ErrNone)
				wantBestCode(t, flat(side, 0), codes, 0, impl.ErrNone)
				for other := place + 1; other < count; other++ {
					codes[other] = flat(c, -2)
					wantBestCode(t, flat(side, 1), codes, int64(place), impl.ErrNone)
					codes[other] = flat(c, 1)
				}
				codes[place] = flat(c, 1)
			}
		}
	})
	// It is the energy of the page that counts, not the greatest cell.
	store := waveOf(2, 3, 3, 4, 0)
	wantBestCode(t, store, single(1, 1), 0, impl.ErrNone)
	blocks := waveOf(4,
		4, 0, 0, 6,
		0, 0, 0, 0,
		0, 4, 0, 0,
		0, 0, 4, 0,
	)
	// The cells 0, 1 and 2 of the blocks are 4, 0, 0, 0, then 0, 6, 4, 0, and then 0, 0, 0, 4.
	picks := []impl.Wave{waveOf(2, 1), waveOf(2, 0, 1), waveOf(2, 0, 0, 1)}
	wantBestCode(t, blocks, picks, 1, impl.ErrNone)
	wantBestCode(t, blocks, []impl.Wave{picks[2], picks[0]}, 0, impl.ErrNone)
	wantBestCode(t, blocks, []impl.Wave{picks[0], picks[2]}, 0, impl.ErrNone)
	two := waveOf(2, 3, 3, 4)
	wantBestCode(t, spreadOf(t, waveOf(2, 1, -1, 1, -1), two), walshWaves(t, 2, 0, 1, 2, 3), 1, impl.ErrNone)
}

// spreadOf returns the spread of a page by a code.
func spreadOf(t *testing.T, code, page impl.Wave) impl.Wave {
	t.Helper()
	w, failure := impl.SpreadPage(code, page)
	wantNone(t, "SpreadPage", failure)
	return w
}

// Energies that differ by the last digit, or not at all after they are rounded, in both orders.
func TestNearEnergies(t *testing.T) {
	const next = 1 + 0x1p-23
	wantBestCode(t, waveOf(1, 1), single(1, next), 1, impl.ErrNone)
	wantBestCode(t, waveOf(1, 1), single(next, 1), 0, impl.ErrNone)
	wantBestCode(t, waveOf(1, 1), single(1, 1+0x1p-24i), 0, impl.ErrNone)
	wantBestCode(t, waveOf(1, 1), single(1+0x1p-24i, 1), 0, impl.ErrNone)
	// The squares of these are 0, or the least number, though the pages are not equal.
	wantBestCode(t, waveOf(1, 1), single(0x1p-76, 0x1p-75, 0x1p-80), 0, impl.ErrNone)
	wantBestCode(t, waveOf(1, 1), single(0x1p-75, 0x1p-74, 0x1.8p-74), 2, impl.ErrNone)
	wantBestCode(t, waveOf(1, 1), single(0x1.8p-75, 0x1.9p-75, 0), 0, impl.ErrNone)
	wantBestCode(t, waveOf(1, least), single(1, 2, 3), 0, impl.ErrNone)
	wantBestCode(t, waveOf(1, 1), single(0x1.fffffcp63, 0x1.fffffep63, 1), 1, impl.ErrNone)
	// Energies are sums in the order of the cells: 2^24 and three ones are 2^24, turned round they are
	// 2^24 + 4.
	store := flat(4, 0)
	rising := []complex64{1, 1, 1, 1 << 12}
	for p, z := range rising {
		cells := cellsOfBlock(4, 2, int64(p))
		store.Cells[cells[0]], store.Cells[cells[1]] = rising[3-p], z
	}
	picks := []impl.Wave{waveOf(2, 4), waveOf(2, 0, 4)}
	wantBestCode(t, store, picks, 1, impl.ErrNone)
	slices.Reverse(picks)
	wantBestCode(t, store, picks, 0, impl.ErrNone)
}

// A page or an energy that is not finite is ErrLimit, for whichever code it is.
func TestLimitsOfBestCodes(t *testing.T) {
	forStores(func(side, c int64) {
		for _, count := range []int{1, 2, 3, 16} {
			for _, place := range []int{0, count / 2, count - 1} {
				codes := slices.Repeat([]impl.Wave{flat(c, 1)}, count)
				// The page is not finite.
				codes[place] = flat(c, 0x1p64)
				wantBestCode(t, flat(side, 0x1p64), codes, 0, impl.ErrLimit)
				// The page is finite, but not the square of one cell.
				for _, cell := range []int64{0, side*side - 1} {
					codes[place] = flat(c, complex(0, 0x1p64*float32(c*c)))
					wantBestCode(t, waveBut(side, 0, cell, 1), codes, 0, impl.ErrLimit)
					codes[place] = flat(c, complex(0, 0x1.fffffep63*float32(c*c)))
					wantBestCode(t, waveBut(side, 0, cell, 1), codes, int64(place), impl.ErrNone)
				}
				// The squares are finite, but not their sum.
				codes[place] = flat(c, 0x1.8p63)
				if side > c {
					wantBestCode(t, flat(side, 1), codes, 0, impl.ErrLimit)
				} else {
					wantBestCode(t, flat(side, 1), codes, int64(place), impl.ErrNone)
				}
			}
		}
	})
}
