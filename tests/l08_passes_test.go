package tests

import (
	"slices"
	"testing"

	"loop.example/g01225/impl"
)

// wantPasses compares the object after passes with a wave and a code.
func wantPasses(t *testing.T, o, p impl.Wave, places []impl.Place, pictures []impl.Picture, h float32, passes int64, want impl.Wave, wantCode int64) {
	t.Helper()
	if wantCode != impl.ErrNone {
		want = impl.Wave{}
	}
	got, code := impl.RunPasses(o, p, places, pictures, h, passes)
	wantWave(t, "RunPasses", got, code, want, wantCode)
}

// wantMissOfScan compares the error of a scan with a number and a code.
func wantMissOfScan(t *testing.T, o, p impl.Wave, places []impl.Place, pictures []impl.Picture, want float32, wantCode int64) {
	t.Helper()
	if wantCode != impl.ErrNone {
		want = 0
	}
	if got, code := impl.ErrorOfScan(o, p, places, pictures); got != want || code != wantCode {
		t.Errorf("ErrorOfScan = %v, %d; want %v, %d", got, code, want, wantCode)
	}
}

// picturesOf returns a number of pictures of a side.
func (n *numbers) picturesOf(side int64, count, low, high int) (pictures []impl.Picture) {
	for range count {
		pictures = append(pictures, n.picture(side, low, high))
	}
	return pictures
}

func TestRunPasses(t *testing.T) {
	n, codes := numbers{370}, map[int64]int{}
	for i, r := range scanRanges {
		forSides(func(side, m int64) {
			if m == 8 {
				return
			}
			count := int(n.bits() % 4)
			o, p := n.wave(side, r[0], r[1]), n.wave(m, r[2], r[3])
			places, pictures := n.places(side, count), n.picturesOf(m, count, -3, 3+10*i)
			h := someFeedbacks[n.bits()%uint64(len(someFeedbacks))]
			c, want := calculation{}, o
			for passes := range int64(4) {
				wantPasses(t, o, p, places, pictures, h, passes, want, c.code())
				codes[c.code()]++
				want = c.passed(want, p, places, pictures, h)
			}
		})
	}
	if codes[impl.ErrNone] < 200 || codes[impl.ErrLimit] < 20 {
		t.Errorf("codes of passes: %v", codes)
	}
}

// A pass mends at all places, in order, each on what the one before has left.
func TestPassesFollowOneAnother(t *testing.T) {
	n, differ := numbers{371}, 0
	forSides(func(side, m int64) {
		o, p := n.wave(side, -2, 2), n.wave(m, -2, 2)
		lists := [][]impl.Place{
			nil, n.places(side, 1), n.places(side, 2), n.places(side, 20),
			slices.Repeat(n.places(side, 1), 3), slices.Repeat(n.places(side, 2), 4),
		}
		for _, places := range lists {
			pictures, h := n.picturesOf(m, len(places), -2, 8), float32(0.7)
			want := o
			for passes := range int64(9) {
				wantPasses(t, o, p, places, pictures, h, passes, want, impl.ErrNone)
				for i, at := range places {
					next, code := impl.MendObject(want, p, at, pictures[i], h)
					wantNone(t, "MendObject", code)
					want = next
				}
			}
			backwards, others := slices.Clone(places), slices.Clone(pictures)
			slices.Reverse(backwards)
			slices.Reverse(others)
			if other, _ := impl.RunPasses(o, p, backwards, others, h, 8); other != want {
				differ++
			}
		}
	})
	if differ < 30 {
		t.Errorf("the order of places matters in %d lists", differ)
	}
}

func TestPassesByHand(t *testing.T) {
	// At one place twice: 1 becomes 2 by 4, and 3 by 9. By half it becomes 1.5, and 2.25.
	p, places := waveOf(1, 1), []impl.Place{{Row: 1}, {Row: 1}}
	pictures := []impl.Picture{pictureOf(1, 4), pictureOf(1, 9)}
	o := waveOf(2, 7, 5, 1, 1i)
	wantPasses(t, o, p, places, pictures, 1, 1, waveOf(2, 7, 5, 3, 1i), impl.ErrNone)
	wantPasses(t, o, p, places, pictures, 1, 8, waveOf(2, 7, 5, 3, 1i), impl.ErrNone)
	wantPasses(t, o, p, places, pictures, 0.5, 1, waveOf(2, 7, 5, 2.25, 1i), impl.ErrNone)
	// 2.25 becomes 2.125, and 2.5625.
	wantPasses(t, o, p, places, pictures, 0.5, 2, waveOf(2, 7, 5, 2.5625, 1i), impl.ErrNone)
	// Each picture is that of the place with the same index.
	places = []impl.Place{{}, {Column: 1}, {Row: 1, Column: 1}}
	pictures = []impl.Picture{pictureOf(1, 64), pictureOf(1, 16), pictureOf(1, 4)}
	wantPasses(t, o, waveOf(1, 2i), places, pictures, 1, 1, waveOf(2, 4, 2, 1, 1i), impl.ErrNone)
	for _, side := range sides {
		w := numbered(side)
		for passes := range int64(9) {
			// No passes, and no places, leave the object, also where it is great.
			wantPasses(t, w, flat(side, 3), nil, nil, 1, passes, w, impl.ErrNone)
			wantPasses(t, w, flat(side, most), []impl.Place{}, []impl.Picture{}, 1, passes, w, impl.ErrNone)
			for _, z := range zeroSquares {
				list, pictures := slices.Repeat([]impl.Place{{Row: side - 1}}, 20), slices.Repeat([]impl.Picture{even(side, 5)}, 20)
				got, code := impl.RunPasses(signed(w), flat(side, z), list, pictures, 1, passes)
				wantSameBits(t, "RunPasses", got, code, signed(w))
			}
		}
		great := flat(side, complex(most, zeroBelow))
		got, code := impl.RunPasses(great, great, []impl.Place{{}}, []impl.Picture{even(side, most)}, 1, 0)
		wantSameBits(t, "RunPasses", got, code, great)
		wantPasses(t, great, great, []impl.Place{{}}, []impl.Picture{even(side, most)}, 1, 1, great, impl.ErrLimit)
	}
}

// What is not finite may arise at any place of the list, and in a later pass only.
func TestLimitsOfPasses(t *testing.T) {
	for _, side := range []int64{2, 4, 8} {
		last := impl.Place{Row: side - 1, Column: side - 1}
		o, p := waveBut(side, 1, 0, 0x1p127), waveOf(1, 1)
		for _, count := range []int{1, 2, 20} {
			pictures := slices.Repeat([]impl.Picture{pictureOf(1, 1)}, count)
			places := slices.Repeat([]impl.Place{last}, count)
			wantPasses(t, o, p, places, pictures, 1, 8, o, impl.ErrNone)
			for place := range count {
				list := slices.Clone(places)
				list[place] = impl.Place{}
				wantPasses(t, o, p, list, pictures, 1, 0, o, impl.ErrNone)
				wantPasses(t, o, p, list, pictures, 1, 1, o, impl.ErrLimit)
				wantPasses(t, o, p, list, pictures, 0, 8, o, impl.ErrLimit)
			}
		}
	}
}

// A cell with the greatest amplitude can have a square that is not finite, but only for a pass that
// comes after the one in which it gets there.
func TestLimitsOfLaterPasses(t *testing.T) {
	pictures, places := []impl.Picture{pictureOf(1, most)}, []impl.Place{{Row: 1, Column: 1}}
	for _, known := range []struct {
		cell, probe complex64
		h           float32
		first       int64
	}{
		{5 + 3i, 1, 1, 2},
		{complex(-0x1.bf6ccep1, -0x1.11002ep-1), complex(-0x1.1a7a1cp0, 0x1.7cdad4p1), 1, 3},
		{complex(-0x1.3925dcp-2, -0x1.146884p-1), complex(-0x1.817aa6p2, -0x1.faa3b8p0), 0.999, 4},
		{complex(0x1.5c2aaap2, 0x1.32f4aep-1), complex(-0x1.d16eaap2, -0x1.a61388p-2), 0.999, 5},
		{complex(-0x1.28c40ap-2, 0x1.f45568p-1), complex(-0x1.45aabap-1, 0x1.b87abp-1), 0.999, 6},
		{complex(0x1.0286bcp1, -0x1.afb65ap2), complex(-0x1.abca6ap1, -0x1.8394eap0), 1, 7},
		{complex(0x1.af9448p-1, 0x1.be880cp2), complex(0x1.14a71p2, -0x1.731762p2), 0.9, 8},
	} {
		o, p := waveBut(2, 1, 3, known.cell), waveOf(1, known.probe)
		c, want := calculation{}, o
		for passes := range int64(9) {
			wantPasses(t, o, p, places, pictures, known.h, passes, want, codeIf(passes >= known.first))
			if !c.limit {
				want = c.passed(want, p, places, pictures, known.h)
			}
		}
	}
}

func TestErrorOfScan(t *testing.T) {
	n, codes := numbers{373}, map[int64]int{}
	for i, r := range scanRanges {
		forSides(func(side, m int64) {
			count := int(n.bits() % 4)
			if m == 8 {
				count = int(n.bits() % 2)
			}
			o, p := n.wave(side, r[0], r[1]), n.wave(m, r[2], r[3])
			places, pictures := n.places(side, count), n.picturesOf(m, count, -3, 3+12*i)
			c := calculation{}
			want := c.missOfScan(o, p, places, pictures)
			wantMissOfScan(t, o, p, places, pictures, want, c.code())
			codes[c.code()]++
		})
	}
	if codes[impl.ErrNone] < 60 || codes[impl.ErrLimit] < 5 {
		t.Errorf("codes of errors of scans: %v", codes)
	}
}

func TestErrorsOfScansByHand(t *testing.T) {
	o := waveOf(2, 1, 2, 3, 4i)
	places := []impl.Place{{Row: 1, Column: 1}, {}, {Row: 1, Column: 1}}
	pictures := []impl.Picture{pictureOf(1, 16), pictureOf(1, 4), pictureOf(1, 19.5)}
	wantMissOfScan(t, o, waveOf(1, 1), places, pictures, 6.5, impl.ErrNone)
	wantMissOfScan(t, o, waveOf(1, 1), places[:2], pictures[:2], 3, impl.ErrNone)
	wantMissOfScan(t, o, waveOf(1, 1), places[:1], pictures[:1], 0, impl.ErrNone)
	wantMissOfScan(t, o, waveOf(1, 2i), places[1:2], pictures[:1], 12, impl.ErrNone)
	// The exit wave 1, 2, 3, 4 has the levels 100, 4, 16, 0.
	wantMissOfScan(t, waveOf(2, 1, 2, 3, 4), flat(2, 1i), []impl.Place{{}}, []impl.Picture{pictureOf(2, 90, 5, 16, 0.5)}, 11.5, impl.ErrNone)
	// The sum goes on from one place to the next: 2^24 and 1 is 2^24, and 1 more is, too.
	none := []impl.Place{{}, {Row: 1}}
	great, small := pictureOf(2, 1<<24), pictureOf(2, 1, 0, 0, 1)
	wantMissOfScan(t, flat(2, 0), flat(2, 1), none, []impl.Picture{great, small}, 1<<24, impl.ErrNone)
	wantMissOfScan(t, flat(2, 0), flat(2, 1), none, []impl.Picture{small, great}, 1<<24+2, impl.ErrNone)
	// A difference is rounded before the sum.
	wantMissOfScan(t, waveOf(1, 1), waveOf(1, 1), none[:1], []impl.Picture{pictureOf(1, 0x1p-26)}, 1, impl.ErrNone)
	wantMissOfScan(t, waveOf(1, 1), waveOf(1, 1), none[:1], []impl.Picture{pictureOf(1, 0x1.8p-25)}, 1-0x1p-24, impl.ErrNone)
	wantMissOfScan(t, waveOf(1, 0), waveOf(1, 1), none[:1], []impl.Picture{pictureOf(1, least)}, least, impl.ErrNone)
	for _, side := range sides {
		wantMissOfScan(t, numbered(side), flat(side, 3), nil, nil, 0, impl.ErrNone)
		wantMissOfScan(t, flat(side, most), flat(side, most), []impl.Place{}, []impl.Picture{}, 0, impl.ErrNone)
	}
}

// The error of a scan of its own pictures is 0.
func TestScansOfOwnPictures(t *testing.T) {
	n, none := numbers{374}, 0
	for _, r := range scanRanges {
		forSides(func(side, m int64) {
			o, p := n.wave(side, r[0], r[1]), n.wave(m, r[2], r[3])
			for _, count := range []int{0, 1, 20} {
				places := n.places(side, count)
				pictures, code := impl.ScanPictures(o, p, places)
				if code == impl.ErrNone {
					wantMissOfScan(t, o, p, places, pictures, 0, impl.ErrNone)
					none++
					continue
				}
				wantMissOfScan(t, o, p, places, slices.Repeat([]impl.Picture{even(m, 1)}, count), 0, impl.ErrLimit)
			}
		})
	}
	if none < 200 {
		t.Errorf("%d scans have pictures", none)
	}
}

// The sum of the differences may be too great, at any place and cell.
func TestLimitsOfErrorsOfScans(t *testing.T) {
	forSides(func(n, m int64) {
		nothing, p := flat(n, 0), flat(m, 1)
		for _, first := range []int{0, 3, 18} {
			for _, second := range []int{first + 1, 19} {
				for _, cell := range []int64{0, m*m - 1} {
					places, pictures := slices.Repeat([]impl.Place{{Row: n - 1}}, 20), slices.Repeat([]impl.Picture{even(m, 0)}, 20)
					pictures[first] = evenBut(m, 0, m*m-1, most)
					wantMissOfScan(t, nothing, p, places, pictures, most, impl.ErrNone)
					pictures[second] = evenBut(m, 0, cell, 0x1.fffffep102)
					wantMissOfScan(t, nothing, p, places, pictures, most, impl.ErrNone)
					pictures[second].Levels[cell] = 0x1p103
					wantMissOfScan(t, nothing, p, places, pictures, 0, impl.ErrLimit)
				}
			}
		}
		if m > 1 {
			wantMissOfScan(t, nothing, p, []impl.Place{{}}, []impl.Picture{even(m, 0x1p127)}, 0, impl.ErrLimit)
		}
		for _, count := range []int{1, 2, 20} {
			places, pictures := slices.Repeat([]impl.Place{{Row: n - 1, Column: n - 1}}, count), slices.Repeat([]impl.Picture{even(m, 0)}, count)
			for place := range count {
				list := slices.Clone(places)
				list[place] = impl.Place{}
				if n > m {
					wantMissOfScan(t, waveOf(n, 0x1p64), waveOf(m, 1), list, pictures, 0, impl.ErrLimit)
					wantMissOfScan(t, waveOf(n, 0x1p64), waveOf(m, 1), places, pictures, 0, impl.ErrNone)
				}
			}
		}
	})
}
