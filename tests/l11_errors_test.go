package tests

import (
	"slices"
	"testing"

	"loop.example/g01225/impl"
)

// A storeCall has arguments of the functions of chapter 11.
type storeCall struct {
	store, code, mask, old, page impl.Wave
	codes, pages                 []impl.Wave
}

// callOf returns arguments with which no function has an error, with z in all cells of codes, pages
// and the store.
func callOf(c, b int64, count int, z complex64) storeCall {
	return storeCall{
		store: flat(c*b, z), code: flat(c, z), mask: flat(c*b, 1), old: flat(b, -z), page: flat(b, z),
		codes: slices.Repeat([]impl.Wave{flat(c, z)}, count), pages: slices.Repeat([]impl.Wave{flat(b, z)}, count),
	}
}

// A storeFunction reports whether its result is the zero value.
type storeFunction = func(a storeCall) (bool, int64)

// storeFunctions returns all functions of chapter 11.
func storeFunctions() map[string]storeFunction {
	wave := func(w impl.Wave, code int64) (bool, int64) { return w == impl.Wave{}, code }
	return map[string]storeFunction{
		"SpreadPage": func(a storeCall) (bool, int64) { return wave(impl.SpreadPage(a.code, a.page)) },
		"StorePages": func(a storeCall) (bool, int64) { return wave(impl.StorePages(a.codes, a.pages)) },
		"ReadPage":   func(a storeCall) (bool, int64) { return wave(impl.ReadPage(a.store, a.code)) },
		"ReadBehind": func(a storeCall) (bool, int64) { return wave(impl.ReadBehind(a.store, a.code, a.mask)) },
		"ChangePage": func(a storeCall) (bool, int64) { return wave(impl.ChangePage(a.store, a.code, a.old, a.page)) },
		"CrossTalk": func(a storeCall) (bool, int64) {
			table, code := impl.CrossTalk(a.codes)
			return len(table) == 0, code
		},
		"AreOrthogonal": func(a storeCall) (bool, int64) {
			are, code := impl.AreOrthogonal(a.codes)
			return !are, code
		},
		"ErrorOfPage": func(a storeCall) (bool, int64) {
			x, code := impl.ErrorOfPage(a.page, a.old)
			return x == 0, code
		},
		"BestCode": func(a storeCall) (bool, int64) {
			k, code := impl.BestCode(a.store, a.codes)
			return k == 0, code
		},
	}
}

// wantCodeOf wants a code of a function, and no result beside an error.
func wantCodeOf(t *testing.T, name string, a storeCall, want int64) {
	t.Helper()
	isZero, code := storeFunctions()[name](a)
	if code != want || want != impl.ErrNone && !isZero {
		t.Errorf("%s of %v: %t, %d; want %d", name, a, isZero, code, want)
	}
}

// wantCodes wants a code of the functions that are named, and another one of all others.
func wantCodes(t *testing.T, a storeCall, want int64, names []string, others int64) {
	t.Helper()
	for name := range storeFunctions() {
		if slices.Contains(names, name) {
			wantCodeOf(t, name, a, want)
		} else {
			wantCodeOf(t, name, a, others)
		}
	}
}

// The functions that take each of the arguments that are no lists.
var (
	takeStore = []string{"ReadPage", "ReadBehind", "ChangePage", "BestCode"}
	takeCode  = []string{"SpreadPage", "ReadPage", "ReadBehind", "ChangePage"}
	takeMask  = []string{"ReadBehind"}
	takeOld   = []string{"ChangePage", "ErrorOfPage"}
	takePage  = []string{"SpreadPage", "ChangePage", "ErrorOfPage"}
)

// What is not a wave is ErrInvalid for all functions that take it, and nothing to the others.
func TestNoWavesInStores(t *testing.T) {
	forCodesAndPages(func(c, b int64) {
		for _, z := range []complex64{1, most} {
			others := codeIf(z == most)
			good := callOf(c, b, 3, z)
			wantCodes(t, good, others, nil, others)
			for _, bad := range noWaves() {
				a := good
				a.store = bad
				wantCodes(t, a, impl.ErrInvalid, takeStore, others)
				a = good
				a.code = bad
				wantCodes(t, a, impl.ErrInvalid, takeCode, others)
				a = good
				a.old = bad
				wantCodes(t, a, impl.ErrInvalid, takeOld, others)
				a = good
				a.page = bad
				wantCodes(t, a, impl.ErrInvalid, takePage, others)
			}
			for _, bad := range noMasks() {
				a := good
				a.mask = bad
				wantCodes(t, a, impl.ErrInvalid, takeMask, others)
			}
		}
	})
}

// wantListCodes wants a code of StorePages, and another one of the functions that take codes alone.
func wantListCodes(t *testing.T, a storeCall, stored, others int64) {
	t.Helper()
	wantCodeOf(t, "StorePages", a, stored)
	for _, name := range []string{"CrossTalk", "AreOrthogonal", "BestCode"} {
		wantCodeOf(t, name, a, others)
	}
}

// In lists of all lengths, those that are too long included, each place is looked at.
func TestNoWavesInLists(t *testing.T) {
	forCodesAndPages(func(c, b int64) {
		for _, count := range []int{1, 2, 3, 16, 17, 40} {
			good := callOf(c, b, count, 1)
			for _, place := range []int{0, count / 2, count - 1} {
				for _, bad := range noWaves() {
					a := good
					a.codes = slices.Clone(good.codes)
					a.codes[place] = bad
					wantListCodes(t, a, impl.ErrInvalid, impl.ErrInvalid)
					a = good
					a.pages = slices.Clone(good.pages)
					a.pages[place] = bad
					wantListCodes(t, a, impl.ErrInvalid, rangeIf(count > 16, impl.ErrNone))
				}
			}
		}
	})
}

// Lists of codes and pages of all lengths, with cells for which there are limits and without them.
func TestLengthsOfLists(t *testing.T) {
	lengths := []int{0, 1, 2, 15, 16, 17, 18, 100}
	forCodesAndPages(func(c, b int64) {
		for _, z := range []complex64{1, most} {
			for _, codes := range lengths {
				for _, pages := range lengths {
					a := callOf(c, b, 100, z)
					a.codes, a.pages = a.codes[:codes], a.pages[:pages]
					want := rangeIf(codes == 0 || codes > 16, codeIf(z == most))
					wantListCodes(t, a, rangeIf(pages != codes, want), want)
				}
			}
		}
	})
}

// Lists that are nil are empty, and an empty list comes behind what is not a wave elsewhere.
func TestEmptyLists(t *testing.T) {
	forCodesAndPages(func(c, b int64) {
		good := callOf(c, b, 1, 1)
		for _, empty := range [][]impl.Wave{nil, {}} {
			for _, other := range [][]impl.Wave{nil, {}, good.pages} {
				a := good
				a.codes, a.pages = empty, other
				wantListCodes(t, a, impl.ErrRange, impl.ErrRange)
			}
			a := good
			a.pages = empty
			wantListCodes(t, a, impl.ErrRange, impl.ErrNone)
			a.codes = []impl.Wave{{}}
			wantListCodes(t, a, impl.ErrInvalid, impl.ErrInvalid)
			a.codes, a.pages = empty, []impl.Wave{{}}
			wantListCodes(t, a, impl.ErrInvalid, impl.ErrRange)
			a.store = impl.Wave{}
			wantCodeOf(t, "BestCode", a, impl.ErrInvalid)
		}
	})
}

// rangeIf returns ErrRange if something is out of its range, and otherwise a code.
func rangeIf(isOut bool, code int64) int64 {
	if isOut {
		return impl.ErrRange
	}
	return code
}

// Codes, pages, stores and masks of all sides, with and without limits.
func TestSidesInStores(t *testing.T) {
	for _, c := range sides {
		for _, b := range sides {
			for _, n := range sides {
				for _, z := range []complex64{1, most} {
					limit := codeIf(z == most)
					a := storeCall{store: flat(n, z), code: flat(c, z), mask: flat(n, 1), old: flat(b, -z), page: flat(b, z)}
					a.codes, a.pages = []impl.Wave{a.code}, []impl.Wave{a.page}
					for name, isOut := range map[string]bool{
						"SpreadPage": c*b > 8, "StorePages": c*b > 8,
						"ReadPage": c > n, "ReadBehind": c > n, "BestCode": c > n, "ChangePage": c*b != n,
						"CrossTalk": false, "AreOrthogonal": false, "ErrorOfPage": false,
					} {
						wantCodeOf(t, name, a, rangeIf(isOut, limit))
					}
				}
			}
		}
	}
}

// A mask with another side than the store is ErrRange, also one with no open cell, and so is a page
// with another side than the old one.
func TestOtherSidesInStores(t *testing.T) {
	forStores(func(n, c int64) {
		for _, side := range sides {
			for _, z := range []complex64{1, most} {
				limit := codeIf(z == most)
				a := callOf(c, n/c, 1, z)
				a.mask = flat(side, 1)
				wantCodeOf(t, "ReadBehind", a, rangeIf(side != n, limit))
				a.mask = flat(side, 0)
				wantCodeOf(t, "ReadBehind", a, rangeIf(side != n, impl.ErrState))
				a.old = flat(side, -z)
				for _, name := range takeOld {
					wantCodeOf(t, name, a, rangeIf(side != n/c, limit))
				}
				a.old, a.page = a.page, a.old
				for _, name := range takeOld {
					wantCodeOf(t, name, a, rangeIf(side != n/c, limit))
				}
			}
		}
	})
}

// What is not a wave, or no mask, comes before all sides.
func TestNoWavesOfOtherSides(t *testing.T) {
	mixed := storeCall{store: flat(2, most), code: flat(8, most), mask: flat(4, 0), old: flat(1, 1), page: flat(8, most)}
	for _, name := range []string{"SpreadPage", "ReadPage", "ReadBehind", "ChangePage", "ErrorOfPage"} {
		wantCodeOf(t, name, mixed, impl.ErrRange)
	}
	for _, bad := range noWaves() {
		for _, name := range []string{"ReadPage", "ReadBehind", "ChangePage"} {
			a := mixed
			a.store = bad
			wantCodeOf(t, name, a, impl.ErrInvalid)
			a = mixed
			a.code = bad
			wantCodeOf(t, name, a, impl.ErrInvalid)
		}
		for _, name := range []string{"ChangePage", "ErrorOfPage"} {
			a := mixed
			a.old = bad
			wantCodeOf(t, name, a, impl.ErrInvalid)
			a = mixed
			a.page = bad
			wantCodeOf(t, name, a, impl.ErrInvalid)
		}
		wantCodeOf(t, "SpreadPage", storeCall{code: bad, page: flat(8, most)}, impl.ErrInvalid)
		wantCodeOf(t, "SpreadPage", storeCall{code: flat(8, most), page: bad}, impl.ErrInvalid)
	}
	for _, bad := range noMasks() {
		a := mixed
		a.mask = bad
		wantCodeOf(t, "ReadBehind", a, impl.ErrInvalid)
	}
}

// Lists with two sides are ErrRange, whichever wave has the other one, also where it alone would
// do.
func TestListsOfTwoSides(t *testing.T) {
	forCodesAndPages(func(c, b int64) {
		for _, count := range []int{2, 3, 16, 17} {
			for _, place := range []int{0, count / 2, count - 1} {
				for _, other := range sides {
					for _, z := range []complex64{1, most} {
						none := rangeIf(count > 16, codeIf(z == most))
						a := callOf(c, b, count, z)
						a.codes[place] = flat(other, z)
						want := rangeIf(other != c, none)
						wantListCodes(t, a, want, want)
						a = callOf(c, b, count, z)
						a.pages[place] = flat(other, z)
						wantListCodes(t, a, rangeIf(other != b, none), none)
					}
				}
			}
		}
	})
}

// Something that is not a wave comes first, before or behind a wave of another side.
func TestNoWavesInListsOfTwoSides(t *testing.T) {
	forCodesAndPages(func(c, b int64) {
		for _, count := range []int{2, 3, 16, 17} {
			for place := range count {
				for _, bad := range []int{(place + 1) % count, (place + count - 1) % count} {
					a := callOf(c, b, count, 1)
					a.pages[place], a.pages[bad] = flat(8, 1), waveOf(b, complex(0, nan))
					wantListCodes(t, a, impl.ErrInvalid, rangeIf(count > 16, impl.ErrNone))
					a = callOf(c, b, count, 1)
					a.codes[place], a.codes[bad] = flat(8, 1), waveOf(c, complex(inf, 0))
					wantListCodes(t, a, impl.ErrInvalid, impl.ErrInvalid)
				}
			}
		}
	})
}

// Something that is not a wave in one list comes before whatever is wrong with the other one.
func TestTwoFaultsInLists(t *testing.T) {
	forCodesAndPages(func(c, b int64) {
		for _, bad := range noWaves() {
			for _, count := range []int{0, 1, 2, 16, 17} {
				for place := range 3 {
					great := slices.Repeat([]impl.Wave{flat(8, most)}, count)
					a := callOf(c, b, 3, most)
					a.codes, a.pages[place] = great, bad
					wantCodeOf(t, "StorePages", a, impl.ErrInvalid)
					a.store = bad
					wantCodeOf(t, "BestCode", a, impl.ErrInvalid)
					a = callOf(c, b, 3, most)
					a.pages, a.codes[place] = great, bad
					wantListCodes(t, a, impl.ErrInvalid, impl.ErrInvalid)
				}
			}
			// The codes are looked at before their sides.
			mixed := storeCall{store: flat(1, 1), codes: []impl.Wave{flat(8, 1), flat(2, 1), bad}}
			wantCodeOf(t, "BestCode", mixed, impl.ErrInvalid)
			wantCodeOf(t, "CrossTalk", mixed, impl.ErrInvalid)
			wantCodeOf(t, "AreOrthogonal", mixed, impl.ErrInvalid)
		}
	})
}
