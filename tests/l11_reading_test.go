package tests

import (
	"testing"

	"loop.example/g01225/impl"
)

// wantRead compares the page that is read from a store with a code with a wave and a code.
func wantRead(t *testing.T, store, code, want impl.Wave, wantCode int64) {
	t.Helper()
	page, got := impl.ReadPage(store, code)
	wantWave(t, "ReadPage", page, got, want, wantCode)
}

// wantReadBehind compares the page that is read behind a mask with a wave and a code.
func wantReadBehind(t *testing.T, store, code, m, want impl.Wave, wantCode int64) {
	t.Helper()
	page, got := impl.ReadBehind(store, code, m)
	wantWave(t, "ReadBehind", page, got, want, wantCode)
}

// forStores calls use with all sides of stores and of codes that divide them.
func forStores(use func(n, c int64)) { forCodesAndPages(func(c, b int64) { use(c*b, c) }) }

// Many of the pages would be others if the cells of the code had another order.
func TestPagesAreReadExactly(t *testing.T) {
	n, codes, others := numbers{610}, map[int64]int{}, 0
	for _, r := range storeRanges {
		forStores(func(side, c int64) {
			for range 5 {
				store, code := n.wave(side, r[2], r[3]), n.wave(c, r[0], r[1])
				exact := calculation{}
				want, wantCode := exact.readInOrder(store, code, flat(side, 1))
				wantRead(t, store, code, want, wantCode)
				wantReadBehind(t, store, code, flat(side, 1), want, wantCode)
				codes[wantCode]++
				var turned, columns calculation
				falling, _ := turned.result(turned.read(store, code, flat(side, 1), orders(c * c)[1]))
				down, _ := columns.result(columns.read(store, code, flat(side, 1), byColumns(c)))
				if falling != want && down != want {
					others++
				}
			}
		})
	}
	if codes[impl.ErrNone] < 200 || codes[impl.ErrLimit] < 50 || others < 50 {
		t.Errorf("codes of pages: %v; others: %d", codes, others)
	}
}

// mostlyOpen returns a mask of a side with some cells that are not open, few of them.
func (n *numbers) mostlyOpen(side int64) impl.Wave {
	m := flat(side, 1)
	for i := range side * side {
		if n.bits()%5 == 0 {
			m.Cells[i] = 0
		}
	}
	return m
}

func TestPagesAreReadBehindMasksExactly(t *testing.T) {
	n, codes := numbers{611}, map[int64]int{}
	for _, r := range storeRanges {
		forStores(func(side, c int64) {
			for round := range 8 {
				store, code, m := n.wave(side, r[2], r[3]), n.wave(c, r[0], r[1]), n.mostlyOpen(side)
				if round%2 == 1 {
					m = n.mask(side)
				}
				exact := calculation{}
				want, wantCode := exact.readInOrder(store, code, m)
				wantReadBehind(t, store, code, m, want, wantCode)
				codes[wantCode]++
			}
		})
	}
	if codes[impl.ErrNone] < 200 || codes[impl.ErrLimit] < 50 || codes[impl.ErrState] < 100 {
		t.Errorf("codes of pages behind masks: %v", codes)
	}
}

func TestPagesByHand(t *testing.T) {
	store := waveOf(2, 1+1i, 5+1i, 5+1i, 1+1i)
	wantRead(t, store, waveOf(2, 1, 1, 1, 1), waveOf(1, 3+1i), impl.ErrNone)
	wantRead(t, store, waveOf(2, 1, -1, -1, 1), waveOf(1, -2), impl.ErrNone)
	wantRead(t, store, waveOf(1, 1), store, impl.ErrNone)
	wantRead(t, store, waveOf(1, 2i), waveOf(2, 2-2i, 2-10i, 2-10i, 2-2i), impl.ErrNone)
	wantRead(t, waveOf(1, 3+4i), waveOf(1, 3+4i), waveOf(1, 25), impl.ErrNone)
	// It is the code of which there is the conjugate, not the store.
	wantRead(t, waveOf(1, 1i), waveOf(1, 1), waveOf(1, 1i), impl.ErrNone)
	wantRead(t, waveOf(1, 1), waveOf(1, 1i), waveOf(1, -1i), impl.ErrNone)
	code := waveOf(2, 1, 0, 1i, 4)
	blocks := waveOf(4,
		1, 2, 5, 6,
		3, 4, 7, 8,
		1i, 0, 0, 0,
		1i, 1i, 0, 1,
	)
	wantRead(t, blocks, code, waveOf(2, 4.25-0.75i, 9.25-1.75i, 0.25+1.25i, 1), impl.ErrNone)
	wantReadBehind(t, blocks, code, waveOf(4,
		1, 0, 0, 1,
		1, 0, 0, 1,
		0, 1, 1, 1,
		1, 0, 0, 1,
	), waveOf(2, 0.5-1.5i, 16, 0.5, 4.0/3), impl.ErrNone)
	wantReadBehind(t, store, flat(2, 1), waveOf(2, 1, 1), waveOf(1, 3+1i), impl.ErrNone)
	wantReadBehind(t, store, flat(2, 1), waveOf(2, 0, 1, 1), waveOf(1, 5+1i), impl.ErrNone)
	wantReadBehind(t, store, flat(2, 1), waveOf(2, 0, 0, 0, 1), waveOf(1, 1+1i), impl.ErrNone)
	wantReadBehind(t, store, flat(2, 1), waveOf(2, 1, 1, 0, 1), waveOf(1, complex(float32(7)/3, 1)), impl.ErrNone)
}

// One cell of a store and of a code, each at all places: only where the one lies upon the other in a
// block there is something to read.
func TestPagesOfOneCell(t *testing.T) {
	forStores(func(side, c int64) {
		for p := range (side / c) * (side / c) {
			for place, cell := range cellsOfBlock(side, c, p) {
				for k := range c * c {
					store, code := waveBut(side, 0, cell, 3+1i), waveBut(c, 0, k, 2i)
					want, alone := flat(side/c, 0), flat(side/c, 0)
					if k == int64(place) {
						want.Cells[p], alone.Cells[p] = complex(2/float32(c*c), -6/float32(c*c)), 2-6i
					}
					wantRead(t, store, code, want, impl.ErrNone)
					wantReadBehind(t, store, code, flat(side, 1), want, impl.ErrNone)
					// Behind a mask with one open cell in each block it is divided by 1.
					wantReadBehind(t, store, code, openIn(side, c, k), alone, impl.ErrNone)
					closed := flat(side, 1)
					closed.Cells[cell] = 0
					if c > 1 {
						wantReadBehind(t, store, code, closed, flat(side/c, 0), impl.ErrNone)
					} else {
						wantReadBehind(t, store, code, closed, impl.Wave{}, impl.ErrState)
					}
				}
			}
		}
	})
}

// openIn returns a mask of the side n that has, in each block of the side c, the cell k open only.
func openIn(n, c, k int64) impl.Wave {
	m := flat(n, 0)
	for p := range (n / c) * (n / c) {
		m.Cells[cellsOfBlock(n, c, p)[k]] = 1
	}
	return m
}

// Sums begin with the first cell of the code, and go row by row.
func TestOrderOfReading(t *testing.T) {
	const great = 1 << 24
	for _, turn := range []complex64{1, 1i, -1, -1i} {
		code := flat(2, 1)
		wantRead(t, waveOf(2, great*turn, turn, turn, turn), code, waveOf(1, great/4*turn), impl.ErrNone)
		wantRead(t, waveOf(2, turn, turn, turn, great*turn), code, waveOf(1, (great+4)/4*turn), impl.ErrNone)
		wantRead(t, waveOf(2, turn, great*turn, -great*turn, turn), code, waveOf(1, 0.25*turn), impl.ErrNone)
		// By columns this sum would be 2.
		wantRead(t, waveOf(2, turn, great*turn, turn, -great*turn), code, waveOf(1, 0), impl.ErrNone)
		wantRead(t, waveOf(2, turn, -turn, great*turn, turn), code, waveOf(1, great/4*turn), impl.ErrNone)
		// What is left out is not between the others.
		wantReadBehind(t, waveOf(2, turn, great*turn, turn, turn), code, waveOf(2, 1, 0, 1, 1), waveOf(1, turn), impl.ErrNone)
		wantReadBehind(t, waveOf(2, great*turn, turn, turn, turn), code, waveOf(2, 0, 1, 1, 1), waveOf(1, turn), impl.ErrNone)
		wantReadBehind(t, waveOf(2, turn, great*turn, turn, turn), code, waveOf(2, 0, 1, 1, 1), waveOf(1, third(great*turn)), impl.ErrNone)
	}
}

// third returns a complex number with both parts divided by 3.
func third(z complex64) complex64 {
	return complex(exactQuotient(real(z), 3), exactQuotient(imag(z), 3))
}

// Products are rounded to a float64 and once more before they are added, and the sum is divided at
// the end.
func TestProductsOfReadingAreRounded(t *testing.T) {
	const z, level = 1 + 0x1p-12 + 0x1p-40i, 1 + 0x1p-11
	wantRead(t, waveOf(1, z), waveOf(1, z), waveOf(1, level), impl.ErrNone)
	// 3 and a product that ends as 1 + 2^-22 add up to 4, and with what it has been before to more.
	const one = 1 + 0x1p-23
	for _, turn := range []complex64{1, 1i, -1, -1i} {
		wantRead(t, waveOf(2, 3*turn, one*turn), waveOf(2, 1, one), waveOf(1, turn), impl.ErrNone)
		wantReadBehind(t, waveOf(2, 3*turn, one*turn), waveOf(2, 1, one), waveOf(2, 1, 1), waveOf(1, 2*turn), impl.ErrNone)
	}
	// The parts of a product are not rounded before they are added.
	const p, q = 1 + 0x1p-22 - 1i, 1 + 0x1p-23 + 1i
	wantRead(t, waveOf(1, q), waveOf(1, p), waveOf(1, complex(0x1.800002p-22, 2+0x1p-21)), impl.ErrNone)
	// A quarter of each one of these numbers would be 0.
	wantRead(t, flat(2, least), flat(2, 1), waveOf(1, least), impl.ErrNone)
	wantRead(t, flat(2, complex(-least, least)), flat(2, 1), waveOf(1, complex(-least, least)), impl.ErrNone)
	wantRead(t, waveOf(2, 3*least, 3*least), flat(2, 1), waveOf(1, 2*least), impl.ErrNone)
	wantRead(t, waveOf(2, least, least), flat(2, 1), waveOf(1, 0), impl.ErrNone)
	wantRead(t, waveOf(2, least, 0, least, least), flat(2, 1), waveOf(1, least), impl.ErrNone)
	wantReadBehind(t, waveOf(2, least, least), flat(2, 1), waveOf(2, 1, 1), waveOf(1, least), impl.ErrNone)
	wantReadBehind(t, waveOf(2, least, 0, 3), flat(2, 1), waveOf(2, 1, 1), waveOf(1, 0), impl.ErrNone)
	wantRead(t, flat(8, 0x1p-126), flat(8, 1), waveOf(1, 0x1p-126), impl.ErrNone)
	wantRead(t, waveBut(8, 0, 63, 0x1p-126), flat(8, 1), waveOf(1, 0x1p-132), impl.ErrNone)
	// Products that are too small are 0.
	wantRead(t, flat(2, least), flat(2, 0.5), waveOf(1, 0), impl.ErrNone)
	wantRead(t, flat(2, least), flat(2, 0.75i), waveOf(1, complex(0, -least)), impl.ErrNone)
	wantRead(t, flat(2, 0x1p-75), flat(2, 0x1p-75), waveOf(1, 0), impl.ErrNone)
}

// A sum is divided by the number of open cells, whatever that is, and not multiplied by a part.
func TestQuotientsOfReading(t *testing.T) {
	n := numbers{612}
	for count := int64(1); count <= 64; count++ {
		for range 8 {
			// The open cells are in the middle of the code, and only the first of them has something.
			m := impl.Wave{Side: 8}
			first := int64(n.bits() % uint64(65-count))
			for k := range count {
				m.Cells[first+k] = 1
			}
			z := complex(n.next(-3, 3), n.next(-140, -120))
			want := waveOf(1, complex(exactQuotient(real(z), float32(count)), exactQuotient(imag(z), float32(count))))
			wantReadBehind(t, waveBut(8, 0, first, z), flat(8, 1), m, want, impl.ErrNone)
		}
	}
}

// The number of open cells is that of each block.
func TestBlocksCountTheirOwnCells(t *testing.T) {
	for _, side := range []int64{4, 8} {
		c := side / 2
		m := impl.Wave{Side: side}
		want := impl.Wave{Side: 2}
		for p := range int64(4) {
			for k := range p + 1 {
				m.Cells[cellsOfBlock(side, c, p)[k]] = 1
			}
			want.Cells[p] = 12
		}
		wantReadBehind(t, flat(side, 12), flat(c, 1), m, want, impl.ErrNone)
		for p := range int64(4) {
			want.Cells[p] = complex(12/float32(p+1), 0)
		}
		wantReadBehind(t, flat(side, 12), waveOf(c, 1), m, want, impl.ErrNone)
	}
}

// There is no page if one block has no open cell, at whatever place; one open cell is enough.
func TestNoPages(t *testing.T) {
	forStores(func(side, c int64) {
		blocks := (side / c) * (side / c)
		wantReadBehind(t, flat(side, 1), flat(c, 1), flat(side, 0), impl.Wave{}, impl.ErrState)
		for p := range blocks {
			m := flat(side, 1)
			for _, cell := range cellsOfBlock(side, c, p) {
				m.Cells[cell] = 0
			}
			// Neither great cells that are left out, nor such in other blocks, come before this.
			for _, z := range []complex64{0, 1, least, most, complex(most, -most)} {
				wantReadBehind(t, flat(side, z), flat(c, z), m, impl.Wave{}, impl.ErrState)
				wantReadBehind(t, flat(side, z), flat(c, 1), signed(m), impl.Wave{}, impl.ErrState)
				wantReadBehind(t, waveBut(side, most, 0, z), flat(c, most), m, impl.Wave{}, impl.ErrState)
				wantReadBehind(t, waveBut(side, most, side*side-1, z), flat(c, most), m, impl.Wave{}, impl.ErrState)
			}
			for _, cell := range cellsOfBlock(side, c, p) {
				m.Cells[cell] = 1
				wantReadBehind(t, flat(side, 2i), flat(c, 1), m, flat(side/c, 2i), impl.ErrNone)
				m.Cells[cell] = 0
			}
		}
	})
}

// The greatest numbers occur as cells, sums and quotients.
func TestGreatPages(t *testing.T) {
	for _, turn := range []complex64{1, 1i, -1, -1i} {
		wantRead(t, waveOf(1, most*turn), waveOf(1, 1), waveOf(1, most*turn), impl.ErrNone)
		wantRead(t, waveOf(1, turn), waveOf(1, most), waveOf(1, most*turn), impl.ErrNone)
		wantRead(t, waveOf(2, most*turn, -most*turn, most*turn, -most*turn), flat(2, 1), waveOf(1, 0), impl.ErrNone)
		wantRead(t, waveOf(2, most*turn, most*turn, -most*turn, -most*turn), waveOf(2, 1, -1, -1, 1), waveOf(1, 0), impl.ErrNone)
		wantRead(t, waveOf(2, most*turn), flat(2, 1), waveOf(1, 0x1.fffffep125*turn), impl.ErrNone)
		wantReadBehind(t, flat(2, most*turn), flat(2, 1), waveOf(2, 0, 0, 1), waveOf(1, most*turn), impl.ErrNone)
	}
	wantRead(t, waveOf(1, 0x1.fffffep63), waveOf(1, 0x1p64), waveOf(1, most), impl.ErrNone)
	wantRead(t, waveOf(1, 0x1p64+0x1.8p62i), waveOf(1, 0x1p64-0x1.8p62i), waveOf(1, complex(0x1.b8p127, 0x1.8p127)), impl.ErrNone)
}

// What is not finite when it arises is ErrLimit, also where it would be finite when it is divided,
// or in another order.
func TestLimitsOfReading(t *testing.T) {
	for _, turn := range []complex64{1, 1i, -1, -1i} {
		wantRead(t, waveOf(2, most*turn, most*turn, -most*turn, -most*turn), flat(2, 1), impl.Wave{}, impl.ErrLimit)
		wantRead(t, flat(2, most*turn), waveOf(2, 1, 1, -1, -1), impl.Wave{}, impl.ErrLimit)
		wantRead(t, flat(2, most*turn), flat(2, 1), impl.Wave{}, impl.ErrLimit)
		wantRead(t, waveOf(2, most*turn, 0x1p103*turn), flat(2, 1), impl.Wave{}, impl.ErrLimit)
		wantRead(t, waveOf(2, most*turn, 0x1.fffffep102*turn), flat(2, 1), waveOf(1, 0x1.fffffep125*turn), impl.ErrNone)
		wantReadBehind(t, waveOf(2, most*turn, 7, most*turn, -most*turn), flat(2, 1), waveOf(2, 1, 0, 1, 1), impl.Wave{}, impl.ErrLimit)
		wantReadBehind(t, waveOf(2, most*turn, 7, -most*turn, most*turn), flat(2, 1), waveOf(2, 1, 0, 1, 1), waveOf(1, third(most*turn)), impl.ErrNone)
	}
	for _, z := range []complex64{complex(0x1p64, least), complex(least, 0x1p64), complex(least, -0x1p64)} {
		wantRead(t, waveOf(1, 0x1p64), waveOf(1, z), impl.Wave{}, impl.ErrLimit)
		wantRead(t, waveOf(1, z), waveOf(1, 0x1p64), impl.Wave{}, impl.ErrLimit)
	}
}

// A product that is not finite is ErrLimit at whatever place it is read, but what is left out does
// not arise.
func TestLimitsBehindMasks(t *testing.T) {
	forStores(func(side, c int64) {
		for p := range (side / c) * (side / c) {
			for k, cell := range cellsOfBlock(side, c, p) {
				for _, turn := range []complex64{1, 1i, -1, -1i} {
					store, code := waveBut(side, 1, cell, 0x1p64*turn), waveBut(c, 1, int64(k), 0x1p64)
					wantRead(t, store, code, impl.Wave{}, impl.ErrLimit)
					wantReadBehind(t, store, code, flat(side, 1), impl.Wave{}, impl.ErrLimit)
					wantReadBehind(t, store, code, openIn(side, c, int64(k)), impl.Wave{}, impl.ErrLimit)
					if c == 1 {
						continue
					}
					// Every other block has its cell open.
					exact, m := calculation{}, waveBut(side, 1, cell, 0)
					want, wantCode := exact.readInOrder(store, code, m)
					wantNone(t, "the exact calculation", wantCode)
					wantReadBehind(t, store, code, m, want, impl.ErrNone)
					wantReadBehind(t, store, code, openIn(side, c, int64(c*c-1-int64(k))), flat(side/c, 1), impl.ErrNone)
				}
			}
		}
	})
}
