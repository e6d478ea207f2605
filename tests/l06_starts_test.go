package tests

import (
	"runtime"
	"slices"
	"sync"
	"testing"
	"time"

	"loop.example/g01225/impl"
)

// wantMiss compares the error of a wave with a number and a code.
func wantMiss(t *testing.T, w impl.Wave, b impl.Picture, want float32, wantCode int64) {
	t.Helper()
	if wantCode != impl.ErrNone {
		want = 0
	}
	if x, code := impl.ErrorOfWave(w, b); x != want || code != wantCode {
		t.Errorf("ErrorOfWave(%v, %v) = %v, %d; want %v, %d", w, b, x, code, want, wantCode)
	}
}

// wantMisses compares the errors of rounds with a list and a code.
func wantMisses(t *testing.T, a, b impl.Picture, k, rounds int64, want []float32, wantCode int64) {
	t.Helper()
	if wantCode != impl.ErrNone {
		want = nil
	}
	if list, code := impl.ErrorsOfRounds(a, b, k, rounds); !slices.Equal(list, want) || code != wantCode {
		t.Errorf("ErrorsOfRounds(%v, %v, %d, %d) = %v, %d; want %v, %d", a, b, k, rounds, list, code, want, wantCode)
	}
}

// wantBest compares the best start with an index and a code.
func wantBest(t *testing.T, a, b impl.Picture, list []int64, rounds, want, wantCode int64) {
	t.Helper()
	if wantCode != impl.ErrNone {
		want = 0
	}
	if index, code := impl.BestStart(a, b, list, rounds); index != want || code != wantCode {
		t.Errorf("BestStart(%v, %v, %v, %d) = %d, %d; want %d, %d", a, b, list, rounds, index, code, want, wantCode)
	}
}

// wantExactBest compares the best start with what exact fractions tell.
func wantExactBest(t *testing.T, a, b impl.Picture, list []int64, rounds int64) int64 {
	t.Helper()
	c, misses := calculation{}, []float32{}
	for _, k := range list {
		w := c.start(a, k)
		for range rounds {
			w = c.round(w, a, b)
		}
		misses = append(misses, c.miss(w, b))
	}
	wantBest(t, a, b, list, rounds, firstLeast(misses), c.code())
	return c.code()
}

func TestErrorOfWave(t *testing.T) {
	n := numbers{220}
	for _, r := range append(roundRanges, [4]int{54, 60, 115, 127}) {
		for round := range 12 {
			w, b := n.wave(sides[round%4], r[0], r[1]), n.picture(sides[round%4], r[2], r[3])
			c := calculation{}
			want := c.miss(w, b)
			wantMiss(t, w, b, want, c.code())
		}
	}
}

func TestErrorsOfWavesByHand(t *testing.T) {
	wantMiss(t, waveOf(2, 1i), pictureOf(2, 1, 2, 0, 4), 5, impl.ErrNone)
	wantMiss(t, waveOf(2, 0, 2-1i), pictureOf(2, 0, 10, 5, 5), 10, impl.ErrNone)
	wantMiss(t, waveOf(2, 1, 1, 1, 1), pictureOf(2, 16, 0, 0, 1), 1, impl.ErrNone)
	wantMiss(t, waveOf(1, complex(least, least)), pictureOf(1, 3*least), 3*least, impl.ErrNone)
	// Each difference is rounded, then the sum in the order of the cells.
	wantMiss(t, waveOf(1, 1<<13), pictureOf(1, 1), 1<<26, impl.ErrNone)
	wantMiss(t, flat(2, 0), pictureOf(2, 1<<24, 1, 1, 1), 1<<24, impl.ErrNone)
	wantMiss(t, flat(2, 0), pictureOf(2, 1, 1, 1, 1<<24), 1<<24+4, impl.ErrNone)
	for _, side := range sides {
		wantMiss(t, flat(side, 0), even(side, 0), 0, impl.ErrNone)
		wantMiss(t, signed(flat(side, 0)), signedPicture(even(side, 0)), 0, impl.ErrNone)
		wantMiss(t, waveOf(side, 2i), even(side, 1), 3*float32(side*side), impl.ErrNone)
		wantMiss(t, waveOf(side, 2i), even(side, 7), 3*float32(side*side), impl.ErrNone)
		wantMiss(t, flat(side, 0), evenBut(side, 0, side*side-1, most), most, impl.ErrNone)
	}
}

func TestLimitsOfErrors(t *testing.T) {
	for _, side := range sides {
		wantMiss(t, flat(side, 0x1p64), even(side, most), 0, impl.ErrLimit)
		wantMiss(t, waveOf(side, complex(0, -most)), even(side, most), 0, impl.ErrLimit)
		for _, place := range []int64{0, side*side - 1} {
			// A square of the spectrum is not finite, though the level may be the greatest there.
			w := spectrumAt(side, place, 0x1.01p64)
			wantMiss(t, w, evenBut(side, 0, place, most), 0, impl.ErrLimit)
			w = spectrumAt(side, place, 0x1p63i)
			c := calculation{}
			want := c.miss(w, even(side, 0))
			wantMiss(t, w, even(side, 0), want, impl.ErrNone)
		}
		for place := int64(1); place < side*side; place++ {
			b := evenBut(side, 0, 0, most)
			b.Levels[place] = 0x1p103
			wantMiss(t, flat(side, 0), b, 0, impl.ErrLimit)
			b.Levels[place] = 0x1p102
			wantMiss(t, flat(side, 0), b, most, impl.ErrNone)
		}
	}
	// The sum of the levels of the spectrum is too great, but not that of the differences.
	w := waveOf(2, 0x1.8p63)
	wantMiss(t, w, even(2, 0), 0, impl.ErrLimit)
	wantMiss(t, w, even(2, 0x1.2p127), 0, impl.ErrNone)
}

func TestErrorsOfRounds(t *testing.T) {
	n := numbers{221}
	for i, r := range [][2]int{{-3, 3}, {-30, 30}, {-149, -130}, {110, 120}} {
		for j, side := range sides {
			a, b := n.picture(side, r[0], r[1]), n.picture(side, r[0], r[1])
			k, rounds := []int64{63, 0, 17, 32, 45}[(i+j)%5], []int64{24, 12, 6, 3}[j]
			c := calculation{}
			w := c.start(a, k)
			want := []float32{c.miss(w, b)}
			for times := range rounds {
				wantMisses(t, a, b, k, times, want, c.code())
				w = c.round(w, a, b)
				want = append(want, c.miss(w, b))
			}
			wantMisses(t, a, b, k, rounds, want, c.code())
		}
	}
	// Of the spectrum 2, -2, 2, 2 one cell is left after a round.
	wantMisses(t, even(2, 1), pictureOf(2, 0, 17), 32, 3, []float32{25, 1, 1, 1}, impl.ErrNone)
	wantMisses(t, even(2, 1), even(2, 4), 32, 0, []float32{0}, impl.ErrNone)
	wantMisses(t, even(1, 9), even(1, 4), 63, 24, slices.Repeat([]float32{5}, 25), impl.ErrNone)
	wantMisses(t, even(8, 0), even(8, 1), 1, 2, []float32{64, 64, 64}, impl.ErrNone)
}

// Errors of rounds are the errors of the waves after each number of rounds.
func TestErrorsFollowTheRounds(t *testing.T) {
	n := numbers{222}
	for round := range 16 {
		side := sides[round%4]
		a, b, k := n.picture(side, -3, 3), n.picture(side, -3, 3), int64(n.bits()%64)
		misses, code := impl.ErrorsOfRounds(a, b, k, 24)
		wantNone(t, "ErrorsOfRounds", code)
		if len(misses) != 25 {
			t.Fatalf("%d errors", len(misses))
		}
		for times, miss := range misses {
			w, code := impl.RunRounds(a, b, k, int64(times))
			wantNone(t, "RunRounds", code)
			wantMiss(t, w, b, miss, impl.ErrNone)
			wantMisses(t, a, b, k, int64(times), misses[:times+1], impl.ErrNone)
		}
	}
}

// An error may be not finite though all rounds are, at the start or only later.
func TestLimitsOfErrorsOfRounds(t *testing.T) {
	for _, side := range []int64{2, 4, 8} {
		wantRun(t, even(side, 0), even(side, most), 7, 24, flat(side, 0), impl.ErrNone)
		for _, rounds := range []int64{0, 1, 24} {
			wantMisses(t, even(side, 0), even(side, most), 7, rounds, nil, impl.ErrLimit)
			wantBest(t, even(side, 0), even(side, most), []int64{7}, rounds, 0, impl.ErrLimit)
		}
	}
	// These rounds lead away from the spectrum that is given.
	a, b := pictureOf(2, 2.3e37, 2.8e37, 1e37, 3.6e37), pictureOf(2, 0, 8.7e37, 0, 2.4e37)
	if limit := wantMissesToLimit(t, a, b, 28); limit < 1 {
		t.Errorf("the errors are not finite at %d", limit)
	}
	n := numbers{223}
	for round := range 80 {
		side := []int64{2, 4}[round%2]
		wantMissesToLimit(t, n.picture(side, 118, 125), n.picture(side, 118, 127), int64(n.bits()%64))
	}
}

// wantMissesToLimit compares the errors of up to three rounds with exact ones, and returns for
// which number of rounds they are not finite though the rounds are, or -1.
func wantMissesToLimit(t *testing.T, a, b impl.Picture, k int64) int64 {
	t.Helper()
	c := calculation{}
	w := c.start(a, k)
	want := []float32{c.miss(w, b)}
	for rounds := range int64(4) {
		wantMisses(t, a, b, k, rounds, want, c.code())
		if c.limit {
			wantMisses(t, a, b, k, 24, nil, impl.ErrLimit)
			if _, code := impl.RunRounds(a, b, k, rounds); code == impl.ErrNone {
				return rounds
			}
			return -1
		}
		w = c.round(w, a, b)
		want = append(want, c.miss(w, b))
	}
	return -1
}

func TestBestStart(t *testing.T) {
	n, codes := numbers{224}, map[int64]int{}
	for _, r := range [][2]int{{-3, 3}, {-30, 30}, {-149, -130}, {116, 126}} {
		for round := range 12 {
			side := []int64{2, 4, 2, 8}[round%4]
			a, b := n.picture(side, r[0], r[1]), n.picture(side, r[0], r[1])
			rounds := []int64{0, 1, 3}[round%3]
			var list []int64
			for range 1 + n.bits()%(8/uint64(side)+4) {
				list = append(list, int64(n.bits()%64))
			}
			codes[wantExactBest(t, a, b, list, rounds)]++
		}
	}
	if codes[impl.ErrNone] < 10 || codes[impl.ErrLimit] < 3 {
		t.Errorf("codes of best starts: %v", codes)
	}
	wantExactBest(t, n.picture(2, -3, 3), n.picture(2, -3, 3), []int64{0, 63, 9, 40, 5, 31, 17, 22}, 24)
}

// The best start is the one whose error is the least among those of rounds.
func TestBestStartsHaveTheLeastErrors(t *testing.T) {
	n, indexes := numbers{225}, map[int64]bool{}
	for round := range 40 {
		side := sides[round%4]
		a, b := n.picture(side, -3, 3), n.picture(side, -3, 3)
		rounds := int64(n.bits() % 25)
		var list []int64
		var last []float32
		for range 8 {
			k := int64(n.bits() % 64)
			misses, code := impl.ErrorsOfRounds(a, b, k, rounds)
			wantNone(t, "ErrorsOfRounds", code)
			list, last = append(list, k), append(last, misses[rounds])
		}
		indexes[firstLeast(last)] = true
		for count := 1; count <= 8; count++ {
			wantBest(t, a, b, list[:count], rounds, firstLeast(last[:count]), impl.ErrNone)
		}
	}
	if len(indexes) < 6 {
		t.Errorf("the best starts are always at %v", indexes)
	}
}

// Of equal errors the first one is the least, and numbers may be equal.
func TestTiesOfStarts(t *testing.T) {
	// The start by 32 has the levels 4, 4, 4, 4 of the spectrum, that by 0 the levels 16, 0, 0, 0.
	a, b := even(2, 1), even(2, 4)
	for count := 1; count <= 8; count++ {
		for place := range count {
			list := make([]int64, count)
			list[place] = 32
			wantBest(t, a, b, list, 0, int64(place), impl.ErrNone)
			for other := place + 1; other < count; other++ {
				list[other] = 32
				wantBest(t, a, b, list, 0, int64(place), impl.ErrNone)
			}
			list = slices.Repeat([]int64{32}, count)
			list[place] = 0
			wantBest(t, a, pictureOf(2, 16), list, 0, int64(place), impl.ErrNone)
		}
		wantBest(t, a, b, slices.Repeat([]int64{32}, count), 24, 0, impl.ErrNone)
	}
	for _, rounds := range []int64{0, 1, 24} {
		for _, side := range sides {
			// The first cell alone is the same for all starts.
			wantBest(t, pictureOf(side, 4), even(side, 9), []int64{63, 0, 17, 63, 5, 6, 7, 8}, rounds, 0, impl.ErrNone)
			wantBest(t, even(side, 0), even(side, 9), []int64{1, 2}, rounds, 0, impl.ErrNone)
			wantBest(t, even(side, 0), even(side, 0), []int64{63}, rounds, 0, impl.ErrNone)
		}
	}
	// Starts by 1 and by 63 are conjugates where only one row has levels.
	wantBest(t, pictureOf(2, 1, 1), even(2, 1), []int64{1, 63}, 0, 0, impl.ErrNone)
	wantBest(t, pictureOf(2, 1, 1), even(2, 1), []int64{63, 1}, 0, 0, impl.ErrNone)
}

// One start with something that is not finite is enough, wherever it stands in the list.
func TestLimitsOfStarts(t *testing.T) {
	for count := 1; count <= 8; count++ {
		good := slices.Repeat([]int64{32}, count)
		wantBest(t, even(2, 0x1p124), even(2, 0x1p126), good, 0, 0, impl.ErrNone)
		wantBest(t, even(2, 0x1p124), even(2, 0x1p126), good, 24, 0, impl.ErrNone)
		wantBest(t, even(2, 0x1p123), even(2, 0x1p126), good, 0, 0, impl.ErrNone)
		for place := range count {
			list := slices.Clone(good)
			list[place] = 0
			for _, rounds := range []int64{0, 1, 24} {
				wantBest(t, even(2, 0x1p124), even(2, 0x1p126), list, rounds, 0, impl.ErrLimit)
			}
			// Without rounds only the sum of the error is not finite.
			wantBest(t, even(2, 0x1p123), even(2, 0x1p126), list, 0, 0, impl.ErrLimit)
		}
	}
}

// waitForGoroutines waits a while until there are no more goroutines than told, as those that have
// done all their work may still be about to end.
func waitForGoroutines(t *testing.T, want int) {
	t.Helper()
	for range 500 {
		if runtime.NumGoroutine() <= want {
			return
		}
		time.Sleep(2 * time.Millisecond)
	}
	t.Errorf("%d goroutines are left, where there were %d", runtime.NumGoroutine(), want)
}

// All goroutines of a call come to their ends, with and without something that is not finite.
func TestGoroutinesAreJoined(t *testing.T) {
	before := runtime.NumGoroutine()
	n := numbers{226}
	for range 20 {
		a, b := n.picture(4, -3, 3), n.picture(4, -3, 3)
		_, code := impl.BestStart(a, b, []int64{1, 2, 3, 4, 5, 6, 7, 8}, 2)
		wantNone(t, "BestStart", code)
		wantBest(t, even(2, 0x1p124), even(2, 0x1p126), []int64{0, 32, 32, 32, 0, 32}, 1, 0, impl.ErrLimit)
		wantBest(t, even(8, most), even(8, most), []int64{0, 1, 2, 3, 4, 5, 6, 7}, 24, 0, impl.ErrLimit)
		wantBest(t, a, b, []int64{1, 2, 3, 4, 5, 6, 7, 64}, 2, 0, impl.ErrRange)
		wantBest(t, a, impl.Picture{}, []int64{1, 2, 3, 4, 5, 6, 7, 8}, 2, 0, impl.ErrInvalid)
	}
	waitForGoroutines(t, before)
}

// Results do not depend on how many goroutines run at once, nor on other calls beside.
func TestGoroutinesInAnyOrder(t *testing.T) {
	n := numbers{227}
	processors := runtime.GOMAXPROCS(0)
	defer runtime.GOMAXPROCS(processors)
	for _, side := range sides {
		a, b := n.picture(side, -3, 3), n.picture(side, -3, 3)
		memory := []int64{99, 8, 62, 8, 33, 17, 40, 2, 8, 99}
		list := memory[1:9]
		want, code := impl.BestStart(a, b, list, 5)
		wantNone(t, "BestStart", code)
		for _, count := range []int{1, 2, 3, processors} {
			runtime.GOMAXPROCS(count)
			var callers sync.WaitGroup
			for range 6 {
				callers.Go(func() {
					wantBest(t, a, b, list, 5, want, impl.ErrNone)
					wantBest(t, even(2, 0x1p124), even(2, 0x1p126), []int64{32, 0}, 1, 0, impl.ErrLimit)
				})
			}
			callers.Wait()
		}
		if !slices.Equal(memory, []int64{99, 8, 62, 8, 33, 17, 40, 2, 8, 99}) {
			t.Errorf("the list is changed: %v", memory)
		}
	}
}
