package tests

import (
	"slices"
	"testing"

	"loop.example/g01225/impl"
)

// wantFlood compares a map unwrapped by a flood with a list and a code.
func wantFlood(t *testing.T, h heightMap, m impl.Wave, y, x int64, want []int64, wantCode int64) {
	t.Helper()
	if wantCode != impl.ErrNone {
		want = nil
	}
	list, code := impl.UnwrapFlood(h.side, h.heights, m, y, x)
	if !slices.Equal(list, want) || code != wantCode {
		t.Errorf("UnwrapFlood(%d, %v, %v, %d, %d) = %v, %d; want %v, %d", h.side, h.heights, m.Cells, y, x, list, code, want, wantCode)
	}
}

// wantFloods compares floods from all cells with those of the frame, or with ErrState.
func wantFloods(t *testing.T, h heightMap, m impl.Wave) {
	t.Helper()
	for y := range h.side {
		for x := range h.side {
			if m.Cells[h.side*y+x] == 0 {
				wantFlood(t, h, m, y, x, nil, impl.ErrState)
				continue
			}
			wantFlood(t, h, m, y, x, flooded(h.side, h.heights, m, y, x), impl.ErrNone)
		}
	}
}

// maskOf returns the mask of a side whose open cells are told by rows, with '.' for those that are
// closed.
func maskOf(rows ...string) impl.Wave {
	m := impl.Wave{Side: int64(len(rows))}
	for y, row := range rows {
		for x, cell := range row {
			m.Cells[len(rows)*y+x] = oneIf(cell != '.')
		}
	}
	return m
}

func TestResiduesOf(t *testing.T) {
	n, found := numbers{330}, map[int64]int{}
	for _, side := range sides {
		for range 40 {
			h := n.heights(side, 0, 63)
			want := residues(side, h)
			wantHeights(t, "ResiduesOf", impl.ResiduesOf, heightMap{side, h}, want, impl.ErrNone)
			for _, residue := range want {
				found[residue]++
			}
		}
		if list, code := impl.ResiduesOf(side, n.heights(side, 0, 63)); len(list) != int((side-1)*(side-1)) || code != impl.ErrNone {
			t.Errorf("%d residues of the side %d, %d", len(list), side, code)
		}
	}
	if found[-1] == 0 || found[0] == 0 || found[1] == 0 {
		t.Errorf("the residues are %v", found)
	}
}

func TestResiduesByHand(t *testing.T) {
	for _, known := range []heightMap{
		{1, []int64{0, 16, 48, 32}},
		{-1, []int64{0, 48, 16, 32}},
		{0, []int64{0, 16, 16, 32}},
		{0, []int64{63, 0, 1, 2}},
		{1, []int64{10, 30, 60, 50}},
		{-1, []int64{10, 60, 30, 50}},
		// Here four, two or one of the wrapped differences are -32.
		{-2, []int64{0, 32, 32, 0}},
		{-1, []int64{0, 32, 0, 32}},
		{-1, []int64{0, 0, 32, 32}},
		{-1, []int64{0, 0, 0, 32}},
		{0, []int64{0, 10, 32, 20}},
	} {
		m := heightMap{2, known.heights}
		wantHeights(t, "ResiduesOf", impl.ResiduesOf, m, []int64{known.side}, impl.ErrNone)
	}
	// The residues stand row by row.
	rows := []int64{0, 16, 0, 0, 48, 32, 0, 0, 0, 0, 0, 20, 0, 0, 40, 40}
	wantHeights(t, "ResiduesOf", impl.ResiduesOf, heightMap{4, rows}, residues(4, rows), impl.ErrNone)
	turned := heightsBut(4, 0, 0, 0)
	turned[6], turned[7], turned[11], turned[10] = 0, 16, 32, 48
	wantHeights(t, "ResiduesOf", impl.ResiduesOf, heightMap{4, turned}, residues(4, turned), impl.ErrNone)
	if list := residues(4, turned); list[5] != 1 {
		t.Errorf("the residues are %v", list)
	}
	for _, h := range []int64{0, 32, 63} {
		wantHeights(t, "ResiduesOf", impl.ResiduesOf, heightMap{1, []int64{h}}, nil, impl.ErrNone)
	}
}

func TestUnwrapRows(t *testing.T) {
	n := numbers{331}
	for _, side := range sides {
		for range 60 {
			h := n.heights(side, 0, 63)
			wantHeights(t, "UnwrapRows", impl.UnwrapRows, heightMap{side, h}, alongRows(side, h), impl.ErrNone)
		}
		// As low and as high as it can get.
		steep, last := wrapAll(plane(side, 0, -32, -32)), side*side-1
		want := alongRows(side, steep)
		wantHeights(t, "UnwrapRows", impl.UnwrapRows, heightMap{side, steep}, want, impl.ErrNone)
		if want[last] != -64*(side-1) {
			t.Errorf("the last height is %d", want[last])
		}
		steep = plane(side, 63, 31, 31)
		wantHeights(t, "UnwrapRows", impl.UnwrapRows, heightMap{side, wrapAll(steep)}, steep, impl.ErrNone)
	}
	for _, known := range [][2][]int64{
		{{60}, {60}},
		{{60, 10, 50, 0}, {60, 74, 50, 64}},
		{{0, 32, 31, 63}, {0, -32, 31, -1}},
		{{5, 5, 37, 36}, {5, 5, -27, -28}},
		{{0, 16, 48, 32}, {0, 16, -16, -32}},
		{{0, 31, 62, 29, 60, 29, 60, 27, 56, 25, 57, 25, 63, 62, 61, 60}, {0, 31, 62, 93, -4, -35, -4, 27, -8, -39, -71, -103, -1, -2, -3, -4}},
	} {
		side := map[int]int64{1: 1, 4: 2, 16: 4}[len(known[0])]
		wantHeights(t, "UnwrapRows", impl.UnwrapRows, heightMap{side, known[0]}, known[1], impl.ErrNone)
	}
}

func TestUnwrapFlood(t *testing.T) {
	n := numbers{332}
	for range 24 {
		for _, m := range slices.Concat(masksOf(1), masksOf(2)) {
			wantFloods(t, heightMap{m.Side, n.heights(m.Side, 0, 63)}, m)
		}
	}
	for _, side := range []int64{4, 8} {
		for round := range 24 {
			// Masks with few, with half and with most of the cells open.
			m, other := n.mask(side), n.mask(side)
			for i, z := range m.Cells {
				if round%3 == 0 {
					m.Cells[i] = oneIf(z == 1 && other.Cells[i] == 1)
				}
				if round%3 == 1 {
					m.Cells[i] = oneIf(z == 1 || other.Cells[i] == 1)
				}
			}
			wantFloods(t, heightMap{side, n.heights(side, 0, 63)}, m)
			wantFloods(t, heightMap{side, wrapAll(n.heights(side, 50, 80))}, m)
		}
		for _, m := range []impl.Wave{flat(side, 1), flat(side, 0), waveButLast(side)} {
			wantFloods(t, heightMap{side, n.heights(side, 0, 63)}, m)
			wantFloods(t, heightMap{side, wrapAll(plane(side, 9, -32, 31))}, m)
		}
	}
}

func TestFloodsByHand(t *testing.T) {
	four := heightMap{2, []int64{60, 10, 50, 0}}
	all := flat(2, 1)
	wantFlood(t, four, all, 0, 0, []int64{60, 74, 50, 64}, impl.ErrNone)
	wantFlood(t, four, all, 0, 1, []int64{-4, 10, -14, 0}, impl.ErrNone)
	wantFlood(t, four, all, 1, 0, []int64{60, 74, 50, 64}, impl.ErrNone)
	wantFlood(t, four, all, 1, 1, []int64{-4, 10, -14, 0}, impl.ErrNone)
	// One cell is left, or two that do not touch.
	wantFlood(t, four, maskOf("..", "#."), 1, 0, []int64{0, 0, 50, 0}, impl.ErrNone)
	wantFlood(t, four, maskOf(".#", "#."), 1, 0, []int64{0, 0, 50, 0}, impl.ErrNone)
	wantFlood(t, four, maskOf("#.", ".#"), 0, 0, []int64{60, 0, 0, 0}, impl.ErrNone)
	wantFlood(t, four, maskOf("#.", "##"), 1, 1, []int64{-4, 0, -14, 0}, impl.ErrNone)
	wantFlood(t, heightMap{1, []int64{63}}, flat(1, 1), 0, 0, []int64{63}, impl.ErrNone)
	wantFlood(t, heightMap{1, []int64{0}}, flat(1, 1), 0, 0, []int64{0}, impl.ErrNone)
	// The cell (1, 1) is met from the right one where the flood begins at the top.
	turning := heightMap{2, []int64{0, 16, 48, 32}}
	wantFlood(t, turning, all, 0, 0, []int64{0, 16, -16, 32}, impl.ErrNone)
	wantFlood(t, turning, maskOf("#.", "##"), 0, 0, []int64{0, 0, -16, -32}, impl.ErrNone)
	wantFlood(t, turning, maskOf("##", ".#"), 0, 0, []int64{0, 16, 0, 32}, impl.ErrNone)
	// Zeros of negative sign do not matter.
	wantFlood(t, turning, signed(maskOf("#.", "##")), 0, 0, []int64{0, 0, -16, -32}, impl.ErrNone)
	wantFlood(t, turning, signed(maskOf("#.", "##")), 0, 1, nil, impl.ErrState)
}

// A mask parts the map: what is behind it is not met.
func TestFloodsOfPartedMaps(t *testing.T) {
	rows := heightMap{4, wrapAll(plane(4, 60, 3, 5))}
	for _, known := range []struct {
		mask impl.Wave
		y, x int64
		want []int64
	}{
		{maskOf("##.#", "##.#", "##.#", "##.#"), 0, 0, []int64{60, 63, 0, 0, 65, 68, 0, 0, 70, 73, 0, 0, 75, 78, 0, 0}},
		{maskOf("##.#", "##.#", "##.#", "##.#"), 2, 3, []int64{0, 0, 0, 5, 0, 0, 0, 10, 0, 0, 0, 15, 0, 0, 0, 20}},
		{maskOf("####", "....", "####", "...."), 0, 2, []int64{-4, -1, 2, 5, 0, 0, 0, 0, 0, 0, 0, 0, 0, 0, 0, 0}},
		{maskOf("####", "....", "####", "...."), 2, 0, []int64{0, 0, 0, 0, 0, 0, 0, 0, 6, 9, 12, 15, 0, 0, 0, 0}},
		// Cells touch only at corners, or over the border of the map.
		{maskOf("#...", ".#..", "..#.", "...#"), 1, 1, []int64{0, 0, 0, 0, 0, 4, 0, 0, 0, 0, 0, 0, 0, 0, 0, 0}},
		{maskOf("#..#", "....", "....", "#..#"), 0, 3, []int64{0, 0, 0, 5, 0, 0, 0, 0, 0, 0, 0, 0, 0, 0, 0, 0}},
		{maskOf("...#", "#...", "...#", "#..."), 1, 0, []int64{0, 0, 0, 0, 1, 0, 0, 0, 0, 0, 0, 0, 0, 0, 0, 0}},
		{maskOf("....", "....", "....", "...#"), 3, 3, []int64{0, 0, 0, 0, 0, 0, 0, 0, 0, 0, 0, 0, 0, 0, 0, 20}},
	} {
		wantFlood(t, rows, known.mask, known.y, known.x, known.want, impl.ErrNone)
	}
	for _, side := range sides {
		for place := range side * side {
			// One cell is left of a mask, and one is left alone by it.
			h := heightMap{side, heightsBut(side, 17, place, 45)}
			alone := waveBut(side, 0, place, 1)
			wantFlood(t, h, alone, place/side, place%side, heightsBut(side, 0, place, 45), impl.ErrNone)
			wantFloods(t, h, alone)
			wantFloods(t, h, waveBut(side, 1, place, 0))
		}
	}
}

// Masks have to be gone round, cell by cell, where the heights go far beyond a turn.
func TestFloodsGoRoundMasks(t *testing.T) {
	spiral := maskOf("####", "...#", "#..#", "####")
	h := []int64{0, 20, 40, 60, 0, 0, 0, 80, 200, 0, 0, 100, 180, 160, 140, 120}
	wantFlood(t, heightMap{4, wrapAll(h)}, spiral, 0, 0, h, impl.ErrNone)
	back := []int64{-192, -172, -152, -132, 0, 0, 0, -112, 8, 0, 0, -92, -12, -32, -52, -72}
	wantFlood(t, heightMap{4, wrapAll(h)}, spiral, 2, 0, back, impl.ErrNone)
	wantFloods(t, heightMap{4, wrapAll(h)}, spiral)
	long := maskOf("########", ".......#", "########", "#.......", "########", ".......#", "########", "#.......")
	path := []int64{}
	for y := range int64(8) {
		for x := range int64(8) {
			if y%4 == 2 {
				x = 7 - x
			}
			if long.Cells[8*y+x] == 1 {
				path = append(path, 8*y+x)
			}
		}
	}
	for _, d := range []int64{31, -32, 20, -7, 0} {
		h := make([]int64, 64)
		for i, place := range path {
			h[place] = 63 + d*int64(i)
		}
		wantFlood(t, heightMap{8, wrapAll(h)}, long, 0, 0, h, impl.ErrNone)
		wantFloods(t, heightMap{8, wrapAll(h)}, long)
	}
}

// Right comes before down, down before left, and left before up: on a ring, on which heights rise
// by 8 clockwise, the cell on the other side is met by the way that begins with the earlier one.
func TestFloodsInOrder(t *testing.T) {
	ring := maskOf("###.", "#.#.", "###.", "....")
	clockwise := []int64{0, 1, 2, 6, 10, 9, 8, 4}
	h := make([]int64, 16)
	for i, place := range clockwise {
		h[place] = 8 * int64(i)
	}
	for i, isClockwise := range []bool{true, true, true, true, true, false, false, false} {
		want := make([]int64, 16)
		for steps := -3; steps <= 3; steps++ {
			want[clockwise[(i+steps+8)%8]] = 8 * int64(i+steps)
		}
		across := clockwise[(i+4)%8]
		if isClockwise {
			want[across] = 8 * int64(i+4)
		} else {
			want[across] = 8 * int64(i-4)
		}
		wantFlood(t, heightMap{4, h}, ring, clockwise[i]/4, clockwise[i]%4, want, impl.ErrNone)
	}
	// A cell is met once, from the cell that stands first in the queue.
	turning := heightMap{2, []int64{0, 16, 48, 32}}
	wantFlood(t, turning, flat(2, 1), 0, 1, []int64{0, 16, 48, 32}, impl.ErrNone)
	wantFlood(t, turning, flat(2, 1), 1, 0, []int64{64, 16, 48, 32}, impl.ErrNone)
	wantFlood(t, turning, flat(2, 1), 1, 1, []int64{64, 16, 48, 32}, impl.ErrNone)
}

func TestErrorsOfUnwrapFlood(t *testing.T) {
	ends := func(n int64) []int64 { return append(outside(0, n-1), n, -1) }
	for _, m := range slices.Concat(noMaps(1), noMaps(-1)) {
		for _, mask := range []impl.Wave{flat(2, 1), flat(8, 0), {}, flat(1, 2)} {
			wantFlood(t, m, mask, 0, 0, nil, impl.ErrInvalid)
			wantFlood(t, m, mask, -1, 8, nil, impl.ErrInvalid)
		}
	}
	for _, mask := range noMasks() {
		for _, side := range sides {
			for _, h := range []int64{0, 63, 64, -1, 100000} {
				wantFlood(t, heightMap{side, heightsBut(side, h, 0, 1)}, mask, 0, 0, nil, impl.ErrInvalid)
				wantFlood(t, heightMap{side, heightsBut(side, h, 0, -1)}, mask, -1, side, nil, impl.ErrInvalid)
			}
		}
	}
	for _, side := range sides {
		for _, h := range []int64{0, 63, 64, -1, 100000} {
			m := heightMap{side, heightsBut(side, 5, side*side-1, h)}
			for _, other := range sides {
				if other != side {
					wantFlood(t, m, flat(other, 1), 0, 0, nil, impl.ErrRange)
					wantFlood(t, m, flat(other, 0), 0, 0, nil, impl.ErrRange)
				}
			}
			for _, open := range []complex64{0, 1} {
				for _, k := range ends(side) {
					wantFlood(t, m, flat(side, open), k, 0, nil, impl.ErrRange)
					wantFlood(t, m, flat(side, open), 0, k, nil, impl.ErrRange)
					wantFlood(t, m, flat(side, open), side-1, k, nil, impl.ErrRange)
					wantFlood(t, m, flat(side, open), k, k, nil, impl.ErrRange)
				}
			}
		}
	}
}

// Maps that are not wrapped, and cells that are not open, are ErrState.
func TestStatesOfUnwrapFlood(t *testing.T) {
	for _, m := range greatMaps() {
		last := m.side - 1
		wantFlood(t, m, flat(m.side, 1), 0, 0, nil, impl.ErrState)
		wantFlood(t, m, flat(m.side, 1), last, last, nil, impl.ErrState)
		wantFlood(t, m, flat(m.side, 0), last, 0, nil, impl.ErrState)
		// Also where the height is not met.
		wantFlood(t, m, waveOf(m.side, 1), 0, 0, nil, impl.ErrState)
	}
	for _, side := range sides {
		h := heightMap{side, slices.Repeat([]int64{63}, int(side*side))}
		for place := range side * side {
			y, x := place/side, place%side
			wantFlood(t, h, waveBut(side, 1, place, 0), y, x, nil, impl.ErrState)
			wantFlood(t, h, flat(side, 0), y, x, nil, impl.ErrState)
			wantFlood(t, h, waveBut(side, 0, place, 1), y, x, heightsBut(side, 0, place, 63), impl.ErrNone)
			wantFlood(t, h, flat(side, 1), y, x, h.heights, impl.ErrNone)
		}
	}
}
