package tests

import (
	"runtime"
	"slices"
	"sync"
	"testing"

	"loop.example/g01225/impl"
)

// Guarantee: stores of one page are its spread, codes included.
func TestStoresOfOnePage(t *testing.T) {
	n, found := numbers{630}, map[int64]int{}
	for _, r := range storeRanges {
		forCodesAndPages(func(c, b int64) {
			for range 4 {
				code, page := n.wave(c, r[0], r[1]), n.wave(b, r[2], r[3])
				want, wantCode := impl.SpreadPage(code, page)
				wantStore(t, []impl.Wave{code}, []impl.Wave{page}, want, wantCode)
				found[wantCode]++
			}
		})
	}
	if found[impl.ErrNone] < 150 || found[impl.ErrLimit] < 40 {
		t.Errorf("codes of spreads: %v", found)
	}
}

// orthogonalSigns returns as many orthogonal codes of ones and minus ones of a side as told. They are
// made of codes of Walsh: some cells are turned round in all of them, and some codes in all cells,
// and their cells take other places.
func (n *numbers) orthogonalSigns(t *testing.T, side, count int64) []impl.Wave {
	t.Helper()
	codes := walshWaves(t, side, n.some(count, side*side)...)
	places := n.some(side*side, side*side)
	signs := n.list(side*side, 0, 0)
	for i, w := range codes {
		turn := 1 - 2*float32(n.bits()%2)
		for cell, place := range places {
			if z := real(w.Cells[place]) * turn; signs[cell] < 0 {
				codes[i].Cells[cell] = complex(-z, 0)
			} else {
				codes[i].Cells[cell] = complex(z, 0)
			}
		}
	}
	wantOrthogonal(t, codes, true, impl.ErrNone)
	return codes
}

// codeCounts returns numbers of codes that can be orthogonal on a side.
func codeCounts(side int64) []int64 {
	if side == 8 {
		return []int64{1, 2, 3, 8, 15, 16}
	}
	return upwards(side*side + 1)[1:]
}

// storesOfWhole calls use with codes of ones and minus ones of all sides that are orthogonal, those
// of Walsh among them, with pages of whole numbers, the greatest absolute value of these, for which no
// sum and no difference is greater than 2^24, and the store of both.
func storesOfWhole(t *testing.T, n *numbers, use func(codes, pages []impl.Wave, limit int64, store impl.Wave)) {
	t.Helper()
	forCodesAndPages(func(c, b int64) {
		for _, count := range codeCounts(c) {
			for _, limit := range []int64{1, 9, 1000, exactUpTo / max(2, c*c*count)} {
				var pages []impl.Wave
				for range count {
					pages = append(pages, n.wholeWave(b, limit))
				}
				for _, codes := range [][]impl.Wave{walshWaves(t, c, n.some(count, c*c)...), n.orthogonalSigns(t, c, count)} {
					store, failure := impl.StorePages(codes, pages)
					wantNone(t, "StorePages", failure)
					use(codes, pages, limit, store)
				}
			}
		}
	})
}

// Promise 11 and guarantee: pages of whole numbers that are stored by orthogonal codes of ones and
// minus ones are read exactly.
func TestStoredPagesAreReadExactly(t *testing.T) {
	n, found := numbers{631}, 0
	storesOfWhole(t, &n, func(codes, pages []impl.Wave, limit int64, store impl.Wave) {
		for i, code := range codes {
			wantRead(t, store, code, pages[i], impl.ErrNone)
			wantMissOfPage(t, pages[i], pages[i], 0, impl.ErrNone)
			found++
		}
	})
	if found < 2000 {
		t.Errorf("%d pages", found)
	}
}

// A code that is orthogonal to those of a store reads nothing but zeros in it.
func TestOtherCodesReadNothing(t *testing.T) {
	n := numbers{632}
	for _, c := range []int64{2, 4, 8} {
		for b := int64(1); b*c <= 8; b *= 2 {
			for count := int64(2); count <= min(16, c*c); count++ {
				codes := n.orthogonalSigns(t, c, count)
				var pages []impl.Wave
				for range count - 1 {
					pages = append(pages, n.wholeWave(b, 1000))
				}
				store, failure := impl.StorePages(codes[1:], pages)
				wantNone(t, "StorePages", failure)
				wantRead(t, store, codes[0], flat(b, 0), impl.ErrNone)
			}
		}
	}
}

// Guarantee: what is read behind a mask that is open everywhere is the page, codes included.
func TestPagesBehindOpenMasks(t *testing.T) {
	n, found := numbers{633}, map[int64]int{}
	for _, r := range storeRanges {
		forStores(func(side, c int64) {
			for range 4 {
				store, code := n.wave(side, r[2], r[3]), n.wave(c, r[0], r[1])
				want, wantCode := impl.ReadPage(store, code)
				wantReadBehind(t, store, code, flat(side, 1), want, wantCode)
				found[wantCode]++
			}
		})
	}
	if found[impl.ErrNone] < 150 || found[impl.ErrLimit] < 40 {
		t.Errorf("codes of pages: %v", found)
	}
}

// Promise 17 and guarantee: a page that is changed is read as it has been changed, the others as
// before, and when it is changed back it leaves the store as it was.
func TestPagesAreChangedBack(t *testing.T) {
	n, found := numbers{634}, 0
	storesOfWhole(t, &n, func(codes, pages []impl.Wave, limit int64, store impl.Wave) {
		for range 2 {
			place := int(n.bits() % uint64(len(codes)))
			page := n.wholeWave(pages[0].Side, limit)
			changed, failure := impl.ChangePage(store, codes[place], pages[place], page)
			wantNone(t, "ChangePage", failure)
			for i, code := range codes {
				if i == place {
					wantRead(t, changed, code, page, impl.ErrNone)
				} else {
					wantRead(t, changed, code, pages[i], impl.ErrNone)
				}
			}
			others := slices.Clone(pages)
			others[place] = page
			wantStore(t, codes, others, changed, impl.ErrNone)
			wantChange(t, changed, codes[place], page, pages[place], store, impl.ErrNone)
			if changed != store {
				found++
			}
		}
	})
	if found < 300 {
		t.Errorf("%d changes", found)
	}
}

// The best code for a store of one page is the one that it has been stored by.
func TestBestCodesOfOnePage(t *testing.T) {
	n := numbers{635}
	for _, c := range []int64{2, 4, 8} {
		for b := int64(1); b*c <= 8; b *= 2 {
			codes := n.orthogonalSigns(t, c, min(16, c*c))
			for i, code := range codes {
				page := waveBut(b, 0, n.cell(b), complex(float32(1+n.bits()%100), 7))
				wantBestCode(t, spreadOf(t, code, page), codes, int64(i), impl.ErrNone)
			}
		}
	}
}

// storeCall returns arguments of all functions of chapter 11, in which zeros occur.
func (n *numbers) storeCall(c, b int64, count int) storeCall {
	some := func(side int64) impl.Wave {
		w := n.wave(side, -2, 2)
		for i := range side * side {
			if n.bits()%4 == 0 {
				w.Cells[i] = 0
			}
		}
		return w
	}
	a := storeCall{store: some(c * b), code: some(c), mask: n.mostlyOpen(c * b), old: some(b), page: some(b)}
	for p := range b * b {
		a.mask.Cells[cellsOfBlock(c*b, c, p)[n.cell(c)]] = 1
	}
	for range count {
		a.codes, a.pages = append(a.codes, some(c)), append(a.pages, some(b))
	}
	return a
}

// storesOf returns what the functions of chapter 11 make of arguments: stores, pages with what is
// told about them, and the cross talk.
func storesOf(t *testing.T, a storeCall) (stores, pages results, table [][]complex64) {
	t.Helper()
	add := func(all *results, w impl.Wave, failure int64) {
		wantNone(t, "a function of stores", failure)
		all.waves = append(all.waves, w)
	}
	spread, failure := impl.SpreadPage(a.code, a.page)
	add(&stores, spread, failure)
	store, failure := impl.StorePages(a.codes, a.pages)
	add(&stores, store, failure)
	changed, failure := impl.ChangePage(a.store, a.code, a.old, a.page)
	add(&stores, changed, failure)
	page, failure := impl.ReadPage(a.store, a.code)
	add(&pages, page, failure)
	behind, failure := impl.ReadBehind(a.store, a.code, a.mask)
	add(&pages, behind, failure)
	miss, failure := impl.ErrorOfPage(a.page, a.old)
	wantNone(t, "ErrorOfPage", failure)
	pages.numbers = []float32{miss}
	best, failure := impl.BestCode(a.store, a.codes)
	wantNone(t, "BestCode", failure)
	pages.integers = []int64{best}
	areOrthogonal, failure := impl.AreOrthogonal(a.codes)
	wantNone(t, "AreOrthogonal", failure)
	if areOrthogonal {
		pages.integers = append(pages.integers, -1)
	}
	table, failure = impl.CrossTalk(a.codes)
	wantNone(t, "CrossTalk", failure)
	return stores, pages, table
}

// Zeros of negative sign, also beyond the side, are zeros, and all further cells of what arises are
// 0.
func TestZerosOfNegativeSignInStores(t *testing.T) {
	n := numbers{636}
	forCodesAndPages(func(c, b int64) {
		for range 6 {
			a := n.storeCall(c, b, 3)
			other := storeCall{
				store: signed(a.store), code: signed(a.code), mask: signed(a.mask), old: signed(a.old), page: signed(a.page),
			}
			for i := range a.codes {
				other.codes, other.pages = append(other.codes, signed(a.codes[i])), append(other.pages, signed(a.pages[i]))
			}
			wantStores, wantPages, wantTable := storesOf(t, a)
			stores, pages, table := storesOf(t, other)
			if !stores.isSame(wantStores) || !pages.isSame(wantPages) || !slices.EqualFunc(table, wantTable, slices.Equal) {
				t.Errorf("%v with zeros of negative sign: %v, %v, %v; want %v, %v, %v", a, stores, pages, table, wantStores, wantPages, wantTable)
			}
			for _, all := range []results{stores, wantStores} {
				all.wantOnSide(t, c*b)
			}
			for _, all := range []results{pages, wantPages} {
				all.wantOnSide(t, b)
			}
		}
	})
	wantOrthogonal(t, single(minusZero, 1, minusZero), true, impl.ErrNone)
	wantMissOfPage(t, waveOf(2, minusZero, 0), waveOf(2, 0, minusZero), 0, impl.ErrNone)
	wantBestCode(t, flat(4, 1), []impl.Wave{flat(2, 0), flat(2, minusZero)}, 0, impl.ErrNone)
	wantReadBehind(t, flat(2, 1), flat(2, 1), flat(2, minusZero), impl.Wave{}, impl.ErrState)
}

// Results depend on nothing but the arguments, which stay as they are, also behind their ends; lists
// of a table share no memory, and nothing is kept.
func TestStoresKeepNothing(t *testing.T) {
	n := numbers{637}
	forCodesAndPages(func(c, b int64) {
		a := n.storeCall(c, b, 8)
		// The same code occurs twice, and once more behind the end.
		a.codes[4], a.codes[6] = a.codes[2], a.codes[2]
		codes, pages := a.codes, a.pages
		keptCodes, keptPages := slices.Clone(codes), slices.Clone(pages)
		a.codes, a.pages = codes[1:5], pages[1:5]
		stores, read, table := storesOf(t, a)
		storesAgain, readAgain, tableAgain := storesOf(t, a)
		if len(tableAgain) != 4 {
			t.Errorf("the table of four codes has %d lists", len(tableAgain))
		}
		for i, row := range slices.Backward(tableAgain) {
			spoil(row, complex(float32(i), -7))
		}
		for i, row := range tableAgain {
			if len(row) != 4 || slices.ContainsFunc(row, func(z complex64) bool { return z != complex(float32(i), -7) }) {
				t.Errorf("the list %d of a table is changed with another one: %v", i, row)
			}
		}
		spoil(tableAgain, nil)
		// Errors leave nothing behind either.
		wantTalk(t, []impl.Wave{flat(c, most)}, nil, impl.ErrLimit)
		wantStore(t, []impl.Wave{flat(c, most)}, []impl.Wave{flat(b, most)}, impl.Wave{}, impl.ErrLimit)
		wantBestCode(t, flat(c*b, most), []impl.Wave{flat(c, most), flat(c, 1)}, 0, impl.ErrLimit)
		wantReadBehind(t, a.store, a.code, flat(c*b, 0), impl.Wave{}, impl.ErrState)
		storesLast, readLast, tableLast := storesOf(t, a)
		if !stores.isSame(storesAgain) || !stores.isSame(storesLast) || !slices.EqualFunc(table, tableLast, slices.Equal) {
			t.Errorf("the stores or the table of %v are changed", a)
		}
		if !read.isSame(readAgain) || !read.isSame(readLast) {
			t.Errorf("what is read of %v is changed", a)
		}
		if !slices.Equal(codes, keptCodes) || !slices.Equal(pages, keptPages) {
			t.Errorf("the arguments are changed: %v, %v", codes, pages)
		}
	})
}

// All goroutines of a call come to their ends, with and without something that is not finite.
func TestGoroutinesThatReadPagesAreJoined(t *testing.T) {
	before := runtime.NumGoroutine()
	n := numbers{638}
	for range 20 {
		store, codes := n.wave(8, -3, 3), n.waves(16, 4, -3, 3)
		_, failure := impl.BestCode(store, codes)
		wantNone(t, "BestCode", failure)
		codes[7] = flat(4, most)
		wantBestCode(t, flat(8, most), codes, 0, impl.ErrLimit)
		codes[9] = impl.Wave{}
		wantBestCode(t, store, codes, 0, impl.ErrInvalid)
		wantBestCode(t, flat(2, 1), codes[:9], 0, impl.ErrRange)
	}
	waitForGoroutines(t, before)
}

// Results do not depend on how many goroutines run at once, nor on other calls beside.
func TestGoroutinesReadPagesInAnyOrder(t *testing.T) {
	n := numbers{639}
	processors := runtime.GOMAXPROCS(0)
	defer runtime.GOMAXPROCS(processors)
	forStores(func(side, c int64) {
		store, memory := n.wave(side, -3, 3), n.waves(18, c, -3, 3)
		memory[12] = memory[3]
		kept, codes := slices.Clone(memory), memory[1:17]
		want, failure := impl.BestCode(store, codes)
		wantNone(t, "BestCode", failure)
		for _, count := range []int{1, 2, 3, processors} {
			runtime.GOMAXPROCS(count)
			var callers sync.WaitGroup
			for range 6 {
				callers.Go(func() {
					wantBestCode(t, store, codes, want, impl.ErrNone)
					wantBestCode(t, flat(side, 1), slices.Repeat([]impl.Wave{flat(c, 1)}, 16), 0, impl.ErrNone)
					wantBestCode(t, store, []impl.Wave{flat(c, most), codes[0]}, 0, impl.ErrLimit)
				})
			}
			callers.Wait()
		}
		if !slices.Equal(memory, kept) {
			t.Errorf("the codes are changed: %v", memory)
		}
	})
}
