package tests

import (
	"slices"
	"testing"

	"loop.example/g01225/impl"
)

// storeRanges are sizes of codes and of pages or stores: usual ones, small, great and mixed ones.
var storeRanges = [][4]int{
	{-3, 3, -3, 3}, {-30, 30, -30, 30}, {-80, -60, -80, -60}, {-149, -120, 100, 127}, {-3, 3, -149, -140},
	{55, 63, 55, 63}, {-3, 3, 118, 125}, {0, 0, 122, 126}, {124, 127, -3, 3},
}

// storeCounts are numbers of codes and pages.
var storeCounts = []int{1, 2, 3, 5, 16}

// wantSpread compares the spread of a page by a code with a wave and a code.
func wantSpread(t *testing.T, code, page, want impl.Wave, wantCode int64) {
	t.Helper()
	w, got := impl.SpreadPage(code, page)
	wantWave(t, "SpreadPage", w, got, want, wantCode)
}

// wantStore compares the store of codes and pages with a wave and a code.
func wantStore(t *testing.T, codes, pages []impl.Wave, want impl.Wave, wantCode int64) {
	t.Helper()
	w, got := impl.StorePages(codes, pages)
	wantWave(t, "StorePages", w, got, want, wantCode)
}

// wantChange compares a store with a changed page with a wave and a code.
func wantChange(t *testing.T, store, code, old, page, want impl.Wave, wantCode int64) {
	t.Helper()
	w, got := impl.ChangePage(store, code, old, page)
	wantWave(t, "ChangePage", w, got, want, wantCode)
}

// ones returns as many codes of the side 1 with a 1 as told.
func ones(count int) []impl.Wave { return slices.Repeat([]impl.Wave{waveOf(1, 1)}, count) }

// single returns waves of the side 1 with one cell each.
func single(cells ...complex64) (list []impl.Wave) {
	for _, z := range cells {
		list = append(list, waveOf(1, z))
	}
	return list
}

func TestMaxPages(t *testing.T) {
	if impl.MaxPages != 16 {
		t.Errorf("MaxPages = %d", impl.MaxPages)
	}
}

func TestSpreadsExactly(t *testing.T) {
	n, codes := numbers{600}, map[int64]int{}
	for _, r := range storeRanges {
		forCodesAndPages(func(c, b int64) {
			for range 4 {
				code, page := n.wave(c, r[0], r[1]), n.wave(b, r[2], r[3])
				exact := calculation{}
				want, wantCode := exact.result(exact.spread(code, page))
				wantSpread(t, code, page, want, wantCode)
				codes[wantCode]++
			}
		})
	}
	if codes[impl.ErrNone] < 150 || codes[impl.ErrLimit] < 40 {
		t.Errorf("codes of spreads: %v", codes)
	}
}

func TestSpreadsByHand(t *testing.T) {
	wantSpread(t, waveOf(2, 1, -1, -1, 1), waveOf(1, 2), waveOf(2, 2, -2, -2, 2), impl.ErrNone)
	wantSpread(t, waveOf(1, 2i), waveOf(1, 3-1i), waveOf(1, 2+6i), impl.ErrNone)
	// Each cell of the page becomes a block with the cells of the code.
	wantSpread(t, waveOf(2, 1, 2, 3, 4i), waveOf(2, 1, 1i, -1, 2), waveOf(4,
		1, 2, 1i, 2i,
		3, 4i, 3i, -4,
		-1, -2, 2, 4,
		-3, -4i, 6, 8i,
	), impl.ErrNone)
	wantSpread(t, waveOf(1, 2), waveOf(2, 1, 2, 3, 4), waveOf(2, 2, 4, 6, 8), impl.ErrNone)
	wantSpread(t, waveOf(2, 1, 2, 3, 4), waveOf(1, 2), waveOf(2, 2, 4, 6, 8), impl.ErrNone)
	forCodesAndPages(func(c, b int64) {
		wantSpread(t, flat(c, 1i), flat(b, 1i), flat(c*b, -1), impl.ErrNone)
		// One open cell of each makes one of the spread.
		for p := range b * b {
			for k := range c * c {
				row, column := p/b*c+k/c, p%b*c+k%c
				wantSpread(t, waveBut(c, 0, k, 3), waveBut(b, 0, p, 2-1i), waveBut(c*b, 0, c*b*row+column, 6-3i), impl.ErrNone)
			}
		}
	})
}

// Products are rounded to a float64 and once more: what is a little more than half a step is half a
// step then, which is rounded to the even number. Their parts are not rounded before they are added.
func TestProductsOfSpreadsAreRounded(t *testing.T) {
	const z, conjugate, level = 1 + 0x1p-12 + 0x1p-40i, 1 + 0x1p-12 - 0x1p-40i, 1 + 0x1p-11
	wantSpread(t, waveOf(1, z), waveOf(1, conjugate), waveOf(1, level), impl.ErrNone)
	wantSpread(t, waveOf(1, conjugate), waveOf(1, z), waveOf(1, level), impl.ErrNone)
	const p, q = 1 + 0x1p-22 + 1i, 1 + 0x1p-23 + 1i
	wantSpread(t, waveOf(1, p), waveOf(1, q), waveOf(1, complex(0x1.800002p-22, 2+0x1p-21)), impl.ErrNone)
	wantSpread(t, waveOf(1, q), waveOf(1, p), waveOf(1, complex(0x1.800002p-22, 2+0x1p-21)), impl.ErrNone)
	wantStore(t, single(z), single(conjugate), waveOf(1, level), impl.ErrNone)
	wantStore(t, single(p), single(q), waveOf(1, complex(0x1.800002p-22, 2+0x1p-21)), impl.ErrNone)
}

// The spreads of many of the lists would have other sums in another order.
func TestStoresExactly(t *testing.T) {
	n, codes, others := numbers{601}, map[int64]int{}, 0
	for _, r := range storeRanges {
		forCodesAndPages(func(c, b int64) {
			for _, count := range storeCounts {
				list, pages := n.waves(count, c, r[0], r[1]), n.waves(count, b, r[2], r[3])
				var results [3]impl.Wave
				var resultCodes [3]int64
				for i, order := range orders(int64(count)) {
					exact := calculation{}
					results[i], resultCodes[i] = exact.result(exact.stored(list, pages, order))
				}
				wantStore(t, list, pages, results[0], resultCodes[0])
				codes[resultCodes[0]]++
				if results[1] != results[0] && results[2] != results[0] {
					others++
				}
			}
		})
	}
	if codes[impl.ErrNone] < 150 || codes[impl.ErrLimit] < 40 || others < 100 {
		t.Errorf("codes of stores: %v; others: %d", codes, others)
	}
}

func TestStoresByHand(t *testing.T) {
	sums, differences := waveOf(2, 1, 1, 1, 1), waveOf(2, 1, -1, -1, 1)
	codes := []impl.Wave{sums, differences}
	wantStore(t, codes, []impl.Wave{waveOf(1, 3+1i), waveOf(1, -2)}, waveOf(2, 1+1i, 5+1i, 5+1i, 1+1i), impl.ErrNone)
	wantStore(t, codes, []impl.Wave{waveOf(2, 1, 2, 3, 4), waveOf(2, 10, 20, 30i, 0)}, waveOf(4,
		11, -9, 22, -18,
		-9, 11, -18, 22,
		3+30i, 3-30i, 4, 4,
		3-30i, 3+30i, 4, 4,
	), impl.ErrNone)
	// Codes need not be orthogonal, nor have ones only.
	wantStore(t, []impl.Wave{sums, sums, flat(2, 0), flat(2, 2i)}, single(1, 2, 100, 3), flat(2, 3+6i), impl.ErrNone)
	forCodesAndPages(func(c, b int64) {
		for count := 1; count <= 16; count++ {
			list, pages := slices.Repeat([]impl.Wave{flat(c, 2)}, count), slices.Repeat([]impl.Wave{flat(b, 1-1i)}, count)
			total := float32(2 * count)
			wantStore(t, list, pages, flat(c*b, complex(total, -total)), impl.ErrNone)
		}
	})
}

// Sums begin with the first page: what is small is lost beside what came before it.
func TestOrderOfStores(t *testing.T) {
	const great = 1 << 24
	for _, turn := range []complex64{1, 1i, -1, -1i} {
		falling, rising := single(great*turn, turn, turn, turn), single(turn, turn, turn, great*turn)
		wantStore(t, ones(4), falling, waveOf(1, great*turn), impl.ErrNone)
		wantStore(t, ones(4), rising, waveOf(1, (great+4)*turn), impl.ErrNone)
		// It is the same with the codes in this order.
		wantStore(t, falling, ones(4), waveOf(1, great*turn), impl.ErrNone)
		wantStore(t, rising, ones(4), waveOf(1, (great+4)*turn), impl.ErrNone)
		// In pairs, and from the right, this sum is another one.
		wantStore(t, ones(4), single(turn, great*turn, -great*turn, turn), waveOf(1, turn), impl.ErrNone)
	}
}

// A product is rounded before it is added: 3 and a product that ends as 1 + 2^-22 add up to 4, and
// with what this product has been before to the next number.
func TestSpreadsAreRoundedBeforeTheyAreAdded(t *testing.T) {
	const one = 1 + 0x1p-23
	for _, turn := range []complex64{1, 1i, -1, -1i} {
		wantStore(t, single(1, one), single(3*turn, one*turn), waveOf(1, 4*turn), impl.ErrNone)
		wantStore(t, single(turn, one*turn), single(3, one), waveOf(1, 4*turn), impl.ErrNone)
		wantChange(t, waveOf(1, 3*turn), waveOf(1, one), waveOf(1, 0), waveOf(1, one*turn), waveOf(1, 4*turn), impl.ErrNone)
	}
	// The real part of this product is a little more than 3 2^-23, which alone would be half a step.
	wantStore(t, single(1, 1+0x1p-22+1i), single(3+0x1p-22, 1+0x1p-23+1i), waveOf(1, complex(3+0x1.8p-21, 2+0x1p-21)), impl.ErrNone)
}

func TestChangesExactly(t *testing.T) {
	n, codes := numbers{602}, map[int64]int{}
	for _, r := range storeRanges {
		forCodesAndPages(func(c, b int64) {
			for range 4 {
				store, code := n.wave(c*b, r[2], r[3]), n.wave(c, r[0], r[1])
				old, page := n.wave(b, r[2], r[3]), n.wave(b, r[2], r[3])
				exact := calculation{}
				want, wantCode := exact.result(exact.changed(store, code, old, page))
				wantChange(t, store, code, old, page, want, wantCode)
				codes[wantCode]++
			}
		})
	}
	if codes[impl.ErrNone] < 150 || codes[impl.ErrLimit] < 40 {
		t.Errorf("codes of changes: %v", codes)
	}
}

func TestChangesByHand(t *testing.T) {
	store, code := waveOf(2, 1, 5, 5, 1), waveOf(2, 1, -1, -1, 1)
	wantChange(t, store, code, waveOf(1, -2), waveOf(1, 4), waveOf(2, 7, -1, -1, 7), impl.ErrNone)
	wantChange(t, store, code, waveOf(1, 4), waveOf(1, -2i), waveOf(2, -3-2i, 9+2i, 9+2i, -3-2i), impl.ErrNone)
	wantChange(t, flat(4, 1), waveOf(2, 1, 2, 3, 4), waveOf(2, 0, 1, 0, 0), waveOf(2, 0, 1, 2, 0), waveOf(4,
		1, 1, 1, 1,
		1, 1, 1, 1,
		3, 5, 1, 1,
		7, 9, 1, 1,
	), impl.ErrNone)
	n := numbers{603}
	forCodesAndPages(func(c, b int64) {
		// What is not changed leaves the store, whatever the numbers are.
		whole, page := n.wave(c*b, -149, 127), n.wave(b, -149, 127)
		wantChange(t, whole, flat(c, most), page, page, whole, impl.ErrNone)
		wantChange(t, whole, flat(c, 0), page, flat(b, 0), whole, impl.ErrNone)
	})
}

// What is spread is the rounded difference of the page and the old one: 2^24 + 1 is no number.
func TestDifferencesOfPagesAreSpread(t *testing.T) {
	const great = 1 << 24
	for _, turn := range []complex64{1, 1i, -1, -1i} {
		wantChange(t, waveOf(1, -great*turn), waveOf(1, 1), waveOf(1, -turn), waveOf(1, great*turn), waveOf(1, 0), impl.ErrNone)
		wantChange(t, waveOf(1, 1), waveOf(1, turn), waveOf(1, 2), waveOf(1, 5), waveOf(1, 1+3*turn), impl.ErrNone)
		// The spreads of the page and of the old one would not be finite.
		wantChange(t, waveOf(1, 0), waveOf(1, 0x1p100*turn), waveOf(1, 0x1p28), waveOf(1, 0x1.00002p28), waveOf(1, 0x1p109*turn), impl.ErrNone)
	}
}

// Numbers below the normal ones have fewer digits, and what is at most half the least one is 0.
func TestSmallSpreads(t *testing.T) {
	wantSpread(t, waveOf(2, 0.5, 0.75, 1.5, 2), waveOf(1, least), waveOf(2, 0, least, 2*least, 2*least), impl.ErrNone)
	wantSpread(t, waveOf(2, least, -least, least*1i, 3*least), waveOf(1, 0.75), waveOf(2, least, -least, least*1i, 2*least), impl.ErrNone)
	wantSpread(t, waveOf(1, least), waveOf(1, most), waveOf(1, 0x1.fffffep-22), impl.ErrNone)
	wantSpread(t, waveOf(1, least), waveOf(1, least), waveOf(1, 0), impl.ErrNone)
	// Each spread is rounded, so that nothing is left of as many halves as there may be.
	wantStore(t, slices.Repeat(single(least), 16), slices.Repeat(single(0.5), 16), waveOf(1, 0), impl.ErrNone)
	wantStore(t, slices.Repeat(single(least), 16), slices.Repeat(single(0.75i), 16), waveOf(1, 16*least*1i), impl.ErrNone)
	wantStore(t, single(1, 1), single(0x1p-126, -least), waveOf(1, 0x1p-126-least), impl.ErrNone)
	wantChange(t, waveOf(1, least), waveOf(1, 1), waveOf(1, 3*least), waveOf(1, least), waveOf(1, -least), impl.ErrNone)
	wantChange(t, waveOf(1, least), waveOf(1, 0.5), waveOf(1, 0x1p-126), waveOf(1, 0x1p-126-least), waveOf(1, least), impl.ErrNone)
}

// The greatest numbers occur as cells and sums.
func TestGreatSpreads(t *testing.T) {
	wantSpread(t, waveOf(1, most), waveOf(1, -1i), waveOf(1, complex(0, -most)), impl.ErrNone)
	wantSpread(t, waveOf(1, 1), waveOf(1, complex(most, -most)), waveOf(1, complex(most, -most)), impl.ErrNone)
	wantSpread(t, waveOf(1, 0x1p64), waveOf(1, 0x1.fffffep63), waveOf(1, most), impl.ErrNone)
	wantStore(t, ones(4), single(most, -most, complex(-most, most), complex(most, 0)), waveOf(1, complex(0, most)), impl.ErrNone)
	wantChange(t, waveOf(1, -most), waveOf(1, 1), waveOf(1, 0), waveOf(1, most), waveOf(1, 0), impl.ErrNone)
	wantChange(t, waveOf(1, 0), waveOf(1, 1i), waveOf(1, most), waveOf(1, 0), waveOf(1, complex(0, -most)), impl.ErrNone)
}

// A product that is not finite is ErrLimit, in whatever cell and part.
func TestLimitsOfSpreads(t *testing.T) {
	forCodesAndPages(func(c, b int64) {
		for p := range b * b {
			for k := range c * c {
				for _, turn := range []complex64{1, 1i, -1, -1i} {
					code, page := waveBut(c, 1, k, 0x1p64), waveBut(b, 1, p, 0x1p64*turn)
					wantSpread(t, code, page, impl.Wave{}, impl.ErrLimit)
					wantStore(t, []impl.Wave{code}, []impl.Wave{page}, impl.Wave{}, impl.ErrLimit)
					wantChange(t, flat(c*b, 0), code, flat(b, 0), page, impl.Wave{}, impl.ErrLimit)
					wantChange(t, flat(c*b, 0), code, page, flat(b, 0), impl.Wave{}, impl.ErrLimit)
				}
			}
		}
	})
	// Only one part is not finite.
	for _, z := range []complex64{complex(0x1p64, least), complex(least, 0x1p64)} {
		wantSpread(t, waveOf(1, 0x1p64), waveOf(1, z), impl.Wave{}, impl.ErrLimit)
		wantSpread(t, waveOf(1, z), waveOf(1, 0x1p64), impl.Wave{}, impl.ErrLimit)
	}
	// The parts are found exactly before they are rounded.
	wantSpread(t, waveOf(1, 0x1p64+0x1p64i), waveOf(1, 0x1p64+0x1p64i), impl.Wave{}, impl.ErrLimit)
	wantSpread(t, waveOf(1, 0x1.8p63+0x1.8p63i), waveOf(1, 0x1.8p63-0x1.8p63i), impl.Wave{}, impl.ErrLimit)
	wantSpread(t, waveOf(1, 0x1p64+0x1.8p62i), waveOf(1, 0x1p64+0x1.8p62i), waveOf(1, complex(0x1.b8p127, 0x1.8p127)), impl.ErrNone)
}

// A sum that is not finite when it arises is ErrLimit, also where another order would be finite.
func TestLimitsOfStores(t *testing.T) {
	for _, turn := range []complex64{1, 1i, -1, -1i} {
		wantStore(t, ones(4), single(most*turn, most*turn, -most*turn, -most*turn), impl.Wave{}, impl.ErrLimit)
		wantStore(t, ones(4), single(most*turn, -most*turn, most*turn, -most*turn), waveOf(1, 0), impl.ErrNone)
		wantStore(t, single(1, 1, -1, -1), slices.Repeat(single(most*turn), 4), impl.Wave{}, impl.ErrLimit)
		wantStore(t, single(1, -1, 1, -1), slices.Repeat(single(most*turn), 4), waveOf(1, 0), impl.ErrNone)
		// Half a step beyond the greatest number is too much, and a little less is lost.
		wantStore(t, ones(2), single(most*turn, 0x1p103*turn), impl.Wave{}, impl.ErrLimit)
		wantStore(t, ones(2), single(most*turn, 0x1.fffffep102*turn), waveOf(1, most*turn), impl.ErrNone)
		// Products that are not finite at the first, a middle and the last place, before and behind
		// their opposites.
		for place := range 5 {
			codes, pages := ones(5), single(1, 2, 3, 4, 5)
			codes[place], pages[place] = waveOf(1, 0x1p64), waveOf(1, 0x1p64*turn)
			wantStore(t, codes, pages, impl.Wave{}, impl.ErrLimit)
			other := (place + 1) % 5
			codes[other], pages[other] = waveOf(1, -0x1p64), waveOf(1, 0x1p64*turn)
			wantStore(t, codes, pages, impl.Wave{}, impl.ErrLimit)
		}
	}
	// One cell is enough, at whatever place.
	forCodesAndPages(func(c, b int64) {
		for p := range b * b {
			for k := range c * c {
				codes := []impl.Wave{flat(c, 1), waveBut(c, 0, k, 1)}
				wantStore(t, codes, []impl.Wave{flat(b, 1), waveBut(b, 0, p, most)}, exactStore(codes, []impl.Wave{flat(b, 1), waveBut(b, 0, p, most)}), impl.ErrNone)
				wantStore(t, codes, []impl.Wave{waveBut(b, 0, p, most), waveBut(b, 0, p, most)}, impl.Wave{}, impl.ErrLimit)
			}
		}
	})
}

// exactStore returns the store of codes and pages, which is finite.
func exactStore(codes, pages []impl.Wave) impl.Wave {
	exact := calculation{}
	return exact.stored(codes, pages, upwards(int64(len(codes))))
}

// A difference that is not finite is ErrLimit, whatever the code is, and so is a sum.
func TestLimitsOfChanges(t *testing.T) {
	forCodesAndPages(func(c, b int64) {
		for p := range b * b {
			for _, turn := range []complex64{1, 1i, -1, -1i} {
				old, page := waveBut(b, 1, p, -most*turn), waveBut(b, 1, p, most*turn)
				for _, z := range []complex64{0, least, 1, 0.25i} {
					wantChange(t, flat(c*b, 0), flat(c, z), old, page, impl.Wave{}, impl.ErrLimit)
					wantChange(t, flat(c*b, 0), flat(c, z), page, old, impl.Wave{}, impl.ErrLimit)
				}
				half := waveBut(b, 1, p, -0x1p103*turn)
				wantChange(t, flat(c*b, 0), flat(c, 0), half, page, impl.Wave{}, impl.ErrLimit)
				near := waveBut(b, 1, p, -0x1.fffffep102*turn)
				wantChange(t, flat(c*b, 2), flat(c, 0), near, page, flat(c*b, 2), impl.ErrNone)
				// The sum with the store, which is as great already.
				zero := waveBut(b, 1, p, 0)
				wantChange(t, flat(c*b, 0x1p103*turn), flat(c, 1), zero, page, impl.Wave{}, impl.ErrLimit)
				wantChange(t, flat(c*b, -most*turn), flat(c, 0), zero, page, flat(c*b, -most*turn), impl.ErrNone)
			}
		}
		for cell := range c * b * c * b {
			wantChange(t, waveBut(c*b, 1, cell, most), flat(c, 1), flat(b, 0), flat(b, 0x1p103), impl.Wave{}, impl.ErrLimit)
			wantChange(t, waveBut(c*b, 1, cell, most), flat(c, 1i), flat(b, 0), flat(b, 1), waveBut(c*b, 1+1i, cell, complex(most, 1)), impl.ErrNone)
		}
	})
}
