package tests

import (
	"slices"
	"testing"

	"loop.example/g01225/impl"
)

// benchRanges are sizes of the numbers of benches: usual ones, small and great ones.
var benchRanges = [][2]int{{-3, 3}, {-30, 30}, {-149, -126}, {-80, -60}, {60, 64}, {118, 127}, {125, 127}}

// bench returns a bench with numbers between 2^low and 2^(high + 1), and often with a mask as the
// second wave. Its three parts have one side, but for every fourth bench.
func (n *numbers) bench(side int64, low, high int) impl.Bench {
	sizes := [3]int64{side, side, side}
	if n.bits()%4 == 0 {
		sizes[n.bits()%3] = sides[n.bits()%4]
	}
	b := impl.Bench{First: n.wave(sizes[0], low, high), Second: n.wave(sizes[1], low, high), Picture: n.picture(sizes[2], low, high)}
	switch n.bits() % 4 {
	case 0:
		b.Second = n.mask(sizes[1])
	case 1:
		b.Second = signed(n.mask(sizes[1]))
	}
	return b
}

// forBenches calls use with benches of all sides and sizes.
func forBenches(n *numbers, count int, use func(b impl.Bench)) {
	for _, r := range benchRanges {
		for _, side := range sides {
			for range count {
				use(n.bench(side, r[0], r[1]))
			}
		}
	}
}

// numbersOf returns numbers for a row, which are small ones, often in their ranges.
func (n *numbers) numbersOf(r row) []int64 {
	if n.bits()%4 == 0 {
		return r.numbers
	}
	list := make([]int64, len(r.numbers))
	for i := range list {
		list[i] = int64(n.bits() % 6)
		switch n.bits() % 8 {
		case 0:
			list[i] = sides[n.bits()%4]
		case 1:
			list[i] = []int64{0, 1, 8, 9, 63, 64, 65, 1000, 1001, 999999999}[n.bits()%10]
		}
	}
	return list
}

// Each row does on benches of all kinds what the function does that it names, and each code that
// can come does so.
func TestRowsOnBenches(t *testing.T) {
	n := numbers{700}
	for _, r := range rows() {
		met := map[int64]int{}
		forBenches(&n, 12, func(b impl.Bench) { met[r.wantRowOf(t, b, n.numbersOf(r))]++ })
		for _, p := range []impl.Picture{even(2, 0), even(8, zeroBelow), even(4, most)} {
			met[r.wantRowOf(t, impl.Bench{First: flat(2, 1), Second: flat(1, 1), Picture: p}, r.numbers)]++
		}
		if met[impl.ErrNone] < 20 {
			t.Errorf("%s does something %d times only", r.name, met[impl.ErrNone])
		}
		for _, code := range r.codes {
			if met[code] == 0 {
				t.Errorf("the code %d of %s is not met: %v", code, r.name, met)
			}
			delete(met, code)
		}
		delete(met, impl.ErrNone)
		if len(met) > 0 {
			t.Errorf("%s: other codes %v", r.name, met)
		}
	}
}

// All numbers of a row have their places.
func TestNumbersOfRows(t *testing.T) {
	b := impl.Bench{First: numbered(4), Second: flat(4, 2), Picture: even(4, 1)}
	for _, r := range rows() {
		if len(r.numbers) == 0 {
			continue
		}
		for k := range int64(9 * 9 * 5) {
			list := []int64{k % 9, k / 9 % 9, k / 81, 1 + k%3}
			if len(r.numbers) > 2 {
				list[0], list[1] = 4, k%9
			}
			r.wantRowOf(t, b, list[:len(r.numbers)])
		}
	}
}

// byHand are lines with their outputs on benches, calculated by hand. Parts of the bench that stay are
// left out.
var byHand = []struct {
	before impl.Bench
	line   string
	after  impl.Bench
	output string
}{
	{impl.Bench{}, "plane 2 1 0", impl.Bench{First: waveOf(2, 1, -1, 1, -1)}, "2:3f800000,0 -3f800000,0 3f800000,0 -3f800000,0"},
	{impl.Bench{}, "plane 2 0 1", impl.Bench{First: waveOf(2, 1, 1, -1, -1)}, "2:3f800000,0 3f800000,0 -3f800000,0 -3f800000,0"},
	{impl.Bench{}, "plane 1 64 64", impl.Bench{First: waveOf(1, 1)}, "1:3f800000,0"},
	{impl.Bench{}, "add", impl.Bench{First: waveOf(2, 3, 3i, -3, 3)}, "2:40400000,0 0,40400000 -40400000,0 40400000,0"},
	{impl.Bench{}, "times", impl.Bench{First: waveOf(2, 2, -2, 0, -4)}, "2:40000000,0 -40000000,0 0,0 -40800000,0"},
	{impl.Bench{}, "conjugate", impl.Bench{First: waveOf(2, 1, -2i, -3, 4)}, "2:3f800000,0 0,-40000000 -40400000,0 40800000,0"},
	{impl.Bench{}, "shift 1 0", impl.Bench{First: waveOf(2, -3, 4, 1, 2i)}, "2:-40400000,0 40800000,0 3f800000,0 0,40000000"},
	{impl.Bench{}, "shift 0 1", impl.Bench{First: waveOf(2, 2i, 1, 4, -3)}, "2:0,40000000 3f800000,0 40800000,0 -40400000,0"},
	{impl.Bench{}, "transform", impl.Bench{First: waveOf(2, 2+2i, -6-2i, 2i, 8-2i)},
		"2:40000000,40000000 -40c00000,-40000000 0,40000000 41000000,-40000000"},
	{impl.Bench{}, "back", impl.Bench{First: waveOf(2, 0.5+0.5i, -1.5-0.5i, 0.5i, 2-0.5i)},
		"2:3f000000,3f000000 -3fc00000,-3f000000 0,3f000000 40000000,-3f000000"},
	{impl.Bench{}, "flip", impl.Bench{}, "2:3f800000,0 0,40000000 -40400000,0 40800000,0"},
	{impl.Bench{}, "centre", impl.Bench{First: waveOf(2, 4, -3, 2i, 1)}, "2:40800000,0 -40400000,0 0,40000000 3f800000,0"},
	{impl.Bench{}, "transpose", impl.Bench{First: waveOf(2, 1, -3, 2i, 4)}, "2:3f800000,0 -40400000,0 0,40000000 40800000,0"},
	{impl.Bench{}, "convolve", impl.Bench{First: waveOf(2, -4, 3+5i, -6+2i, 7-3i)},
		"2:-40800000,0 40400000,40a00000 -40c00000,40000000 40e00000,-40400000"},
	{impl.Bench{}, "correlate", impl.Bench{First: waveOf(2, 0, 3-3i, -6+6i, 7-3i)},
		"2:0,0 40400000,-40400000 -40c00000,40c00000 40e00000,-40400000"},
	{impl.Bench{}, "band 0 0", impl.Bench{First: flat(2, 0.5+0.5i)},
		"2:3f000000,3f000000 3f000000,3f000000 3f000000,3f000000 3f000000,3f000000"},
	{impl.Bench{}, "band 1 8", impl.Bench{First: waveOf(2, 0.5-0.5i, -0.5+1.5i, -3.5-0.5i, 3.5-0.5i)},
		"2:3f000000,-3f000000 -3f000000,3fc00000 -40600000,-3f000000 40600000,-3f000000"},
	{impl.Bench{}, "slit 2 1 1", impl.Bench{Second: waveOf(2, 0, 1, 0, 1)}, "2:0,0 3f800000,0 0,0 3f800000,0"},
	{impl.Bench{}, "slit 2 0 2", impl.Bench{Second: flat(2, 1)}, "2:3f800000,0 3f800000,0 3f800000,0 3f800000,0"},
	{impl.Bench{}, "slit 2 0 0", impl.Bench{Second: flat(2, 0)}, "2:0,0 0,0 0,0 0,0"},
	{impl.Bench{}, "grating 2 2 1", impl.Bench{Second: waveOf(2, 1, 0, 1, 0)}, "2:3f800000,0 0,0 3f800000,0 0,0"},
	{impl.Bench{}, "grating 2 1 1", impl.Bench{Second: flat(2, 1)}, "2:3f800000,0 3f800000,0 3f800000,0 3f800000,0"},
	{impl.Bench{}, "disc 2 0 1 1", impl.Bench{Second: waveOf(2, 1, 1)}, "2:3f800000,0 3f800000,0 0,0 0,0"},
	{impl.Bench{}, "disc 2 1 0 1", impl.Bench{Second: waveOf(2, 1, 0, 1)}, "2:3f800000,0 0,0 3f800000,0 0,0"},
	{impl.Bench{}, "disc 1 0 0 1000", impl.Bench{Second: waveOf(1, 1)}, "1:3f800000,0"},
	{impl.Bench{}, "lens 2 0 2 4", impl.Bench{Second: waveOf(2, 1i, 1, -1, 1i)}, "2:0,3f800000 3f800000,0 -3f800000,0 0,3f800000"},
	{impl.Bench{}, "lens 2 2 0 4", impl.Bench{Second: waveOf(2, 1i, -1, 1, 1i)}, "2:0,3f800000 -3f800000,0 3f800000,0 0,3f800000"},
	{impl.Bench{Second: waveOf(2, 1, 0, 0, 1)}, "behind", impl.Bench{First: waveOf(2, 1, 0, 0, 4)}, "2:3f800000,0 0,0 0,0 40800000,0"},
	{impl.Bench{}, "travel 16", impl.Bench{First: waveOf(2, -1.5+2.5i, 3.5-1.5i, 1.5+1.5i, -1.5-0.5i)},
		"2:-3fc00000,40200000 40600000,-3fc00000 3fc00000,3fc00000 -3fc00000,-3f000000"},
	{impl.Bench{}, "retreat 16", impl.Bench{First: waveOf(2, -1.5-0.5i, 1.5+1.5i, 3.5-1.5i, -1.5+2.5i)},
		"2:-3fc00000,-3f000000 3fc00000,3fc00000 40600000,-3fc00000 -3fc00000,40200000"},
	{impl.Bench{}, "tilt 1 0", impl.Bench{First: waveOf(2, 1, -2i, -3, -4)}, "2:3f800000,0 0,-40000000 -40400000,0 -40800000,0"},
	{impl.Bench{}, "tilt 0 1", impl.Bench{First: waveOf(2, 1, 2i, 3, -4)}, "2:3f800000,0 0,40000000 40400000,0 -40800000,0"},
	{impl.Bench{}, "record", impl.Bench{Picture: even(2, 9)}, "2:41100000,0 41100000,0 41100000,0 41100000,0"},
	{impl.Bench{}, "look", impl.Bench{First: waveOf(2, 2, 4i, 0, -9)}, "2:40000000,0 0,40800000 0,0 -41100000,0"},
	{impl.Bench{}, "see", impl.Bench{Picture: pictureOf(2, 1, 4, 9, 16)}, "2:3f800000,0 40800000,0 41100000,0 41800000,0"},
	{impl.Bench{Picture: pictureOf(2, 1, 4, 25, 9)}, "start 16", impl.Bench{First: waveOf(2, 1, -2, 5i, -3)},
		"2:3f800000,0 -40000000,0 0,40a00000 -40400000,0"},
	{impl.Bench{}, "get", impl.Bench{First: waveOf(2, 1, 2i, 0, 3)}, "2:3f800000,0 0,40000000 0,0 40400000,0"},
	{impl.Bench{}, "code 2 1", impl.Bench{Second: waveOf(2, 1, -1, 1, -1)}, "2:3f800000,0 -3f800000,0 3f800000,0 -3f800000,0"},
	{impl.Bench{}, "code 2 2", impl.Bench{Second: waveOf(2, 1, 1, -1, -1)}, "2:3f800000,0 3f800000,0 -3f800000,0 -3f800000,0"},
	{impl.Bench{}, "show", impl.Bench{}, "2:3f800000,0 0,40000000 -40400000,0 40800000,0"},
	{impl.Bench{}, "other", impl.Bench{}, "2:40000000,0 0,3f800000 0,0 -3f800000,0"},
	{impl.Bench{}, "picture", impl.Bench{}, "2:3f800000,0 40800000,0 0,0 41100000,0"},
	{impl.Bench{}, "energy", impl.Bench{}, "41f00000,0"},
	{impl.Bench{}, "level", impl.Bench{}, "41800000,0"},
	{impl.Bench{}, "inner", impl.Bench{}, "0,0"},
	{impl.Bench{Second: waveOf(2, 2, 1, 0, -1)}, "inner", impl.Bench{}, "-40000000,-40000000"},
	{impl.Bench{}, "trip", impl.Bench{}, "0,0"},
	// The part that is lost is the least one of all numbers.
	{impl.Bench{First: waveOf(2, 1, least)}, "trip", impl.Bench{}, "1,0"},
	{impl.Bench{}, "contrast", impl.Bench{}, "3f800000,0"},
	{impl.Bench{Picture: pictureOf(2, 1, 3, 2, 3)}, "contrast", impl.Bench{}, "3f000000,0"},
	{impl.Bench{Second: waveOf(2, 1, 1, 0, 1)}, "open", impl.Bench{}, "2 1"},
	{impl.Bench{Second: flat(8, 1)}, "open", impl.Bench{}, "8 8 8 8 8 8 8 8"},
	{impl.Bench{Second: waveOf(1, 0)}, "open", impl.Bench{}, "0"},
	{impl.Bench{}, "sum 1", impl.Bench{}, "-41400000,0"},
	{impl.Bench{}, "sum 0", impl.Bench{}, "41600000,0"},
	{impl.Bench{}, "first 1:0,-1", impl.Bench{First: waveOf(1, complex(0, -least))}, "1:0,-1"},
	{impl.Bench{}, "second 1:7f7fffff,f", impl.Bench{Second: waveOf(1, complex(most, 15*least))}, "1:7f7fffff,f"},
	{impl.Bench{}, "swap", impl.Bench{First: waveOf(2, 2, 1i, 0, -1), Second: waveOf(2, 1, 2i, -3, 4)},
		"2:40000000,0 0,3f800000 0,0 -3f800000,0"},
	{impl.Bench{}, "reset", impl.Bench{First: flat(2, 1), Second: flat(2, 1), Picture: even(2, 0)}, "ok"},
}

// withParts returns a bench with those parts of another one that have a side.
func withParts(b, parts impl.Bench) impl.Bench {
	if parts.First.Side != 0 {
		b.First = parts.First
	}
	if parts.Second.Side != 0 {
		b.Second = parts.Second
	}
	if parts.Picture.Side != 0 {
		b.Picture = parts.Picture
	}
	return b
}

func TestLinesByHand(t *testing.T) {
	usual := impl.Bench{First: waveOf(2, 1, 2i, -3, 4), Second: waveOf(2, 2, 1i, 0, -1), Picture: pictureOf(2, 1, 4, 0, 9)}
	missing := []string{"first", "second"}
	for _, r := range rows() {
		missing = append(missing, r.name)
	}
	for _, c := range byHand {
		before := withParts(usual, c.before)
		wantRunLine(t, before, c.line, withParts(before, c.after), c.output)
		missing = slices.DeleteFunc(missing, func(name string) bool { return name == commandOf(c.line) })
	}
	if len(missing) > 0 {
		t.Errorf("there is nothing by hand for %v", missing)
	}
}

// Flips and centred waves of a side on which they are not the same.
func TestTurnedWavesByHand(t *testing.T) {
	cells := func(list ...complex64) impl.Bench {
		return impl.Bench{First: waveOf(4, list...), Second: flat(1, 3), Picture: even(2, 5)}
	}
	b := cells(0, 1, 2, 3, 4, 5, 6, 7, 8, 9, 10, 11, 12, 13, 14, 15)
	for line, want := range map[string]impl.Bench{
		"flip":      cells(0, 3, 2, 1, 12, 15, 14, 13, 8, 11, 10, 9, 4, 7, 6, 5),
		"centre":    cells(10, 11, 8, 9, 14, 15, 12, 13, 2, 3, 0, 1, 6, 7, 4, 5),
		"transpose": cells(0, 4, 8, 12, 1, 5, 9, 13, 2, 6, 10, 14, 3, 7, 11, 15),
		"shift 1 2": cells(14, 15, 12, 13, 2, 3, 0, 1, 6, 7, 4, 5, 10, 11, 8, 9),
		"shift 0 0": b,
		"shift 4 8": b,
	} {
		wantRunLine(t, b, line, want, textOf(want.First))
	}
}

// Travel of no distance and of the greatest one, there and back.
func TestTravelAndRetreat(t *testing.T) {
	n := numbers{701}
	forBenches(&n, 1, func(b impl.Bench) {
		for _, r := range rows() {
			if r.name != "travel" && r.name != "retreat" {
				continue
			}
			for _, d := range []int64{0, 1, 16, 32, 63, 64, 65, 128, 999999999} {
				if code := r.wantRowOf(t, b, []int64{d}); d > 64 && code != impl.ErrRange {
					t.Errorf("%s %d: %d", r.name, d, code)
				}
			}
		}
	})
	b := goodBench()
	for _, line := range []string{"travel 0", "retreat 0", "travel 64", "retreat 64"} {
		wantRunLine(t, b, line, b, textOf(b.First))
	}
	for _, line := range []string{"travel 65", "retreat 65", "travel -1", "retreat -1", "travel -0", "retreat -0"} {
		wantErrorOf(t, b, line)
	}
	away, _ := impl.RunLine(b, "travel 16")
	wantRunLine(t, away, "retreat 16", b, textOf(b.First))
	away, _ = impl.RunLine(b, "retreat 16")
	wantRunLine(t, away, "travel 16", b, textOf(b.First))
}

// Zeros of negative sign are zeros, in what is put out, too.
func TestZerosOfNegativeSignOnBenches(t *testing.T) {
	n := numbers{702}
	for round := range 40 {
		b := n.bench(sides[round%4], -3, 3)
		b.First.Cells[0], b.Picture.Levels[0] = 0, 0
		other := impl.Bench{First: signed(b.First), Second: signed(b.Second), Picture: signedPicture(b.Picture)}
		for _, r := range rows() {
			numbers := n.numbersOf(r)
			if o := r.do(b, four(numbers)); o.code == impl.ErrNone {
				wantRunLine(t, other, r.lineWith(numbers), o.bench, o.output)
			} else {
				wantErrorOf(t, other, r.lineWith(numbers))
			}
		}
	}
}

// Further cells are no part of what is put out.
func TestOutputsOfSides(t *testing.T) {
	for _, side := range sides {
		b := impl.Bench{First: flat(side, -2), Second: flat(side, 1i), Picture: even(side, 0.5)}
		wantRunLine(t, b, "show", b, textOf(b.First))
		wantRunLine(t, b, "other", b, textOf(b.Second))
		wantRunLine(t, b, "picture", b, levelsText(b.Picture))
		for line, cell := range map[string]string{"show": "-40000000,0", "other": "0,3f800000", "picture": "3f000000,0"} {
			_, output := impl.RunLine(b, line)
			want := string(rune('0'+side)) + ":" + cell
			for range side*side - 1 {
				want += " " + cell
			}
			if output != want {
				t.Errorf("%s of the side %d: %q; want %q", line, side, output, want)
			}
		}
	}
}
