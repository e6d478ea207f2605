package tests

import (
	"slices"
	"testing"

	"loop.example/g01225/impl"
)

// listRanges are sizes of numbers of lists: usual ones, small, great and mixed ones.
var listRanges = [][2]int{
	{-3, 3}, {-30, 30}, {-149, -120}, {-149, -145}, {-126, -124}, {60, 66}, {110, 120}, {119, 125}, {122, 126}, {125, 127},
}

// wantSums compares the sums by codes of a list with a list and a code.
func wantSums(t *testing.T, a, want []float32, wantCode int64) {
	t.Helper()
	if list, code := impl.SumsByCodes(a); !slices.Equal(list, want) || code != wantCode {
		t.Errorf("SumsByCodes(%v) = %v, %d; want %v, %d", a, list, code, want, wantCode)
	}
}

// wantBack compares the sums by codes back of a list with a list and a code.
func wantBack(t *testing.T, a, want []float32, wantCode int64) {
	t.Helper()
	if list, code := impl.SumsBack(a); !slices.Equal(list, want) || code != wantCode {
		t.Errorf("SumsBack(%v) = %v, %d; want %v, %d", a, list, code, want, wantCode)
	}
}

// wantSumOf compares the sum of a picture by k with a number and a code.
func wantSumOf(t *testing.T, p impl.Picture, k int64, want float32, wantCode int64) {
	t.Helper()
	if x, code := impl.SumOfPicture(p, k); x != want || code != wantCode {
		t.Errorf("SumOfPicture(%v, %d) = %v, %d; want %v, %d", p, k, x, code, want, wantCode)
	}
}

// wantPictureOf compares the picture of sums with a picture and a code.
func wantPictureOf(t *testing.T, side int64, sums []float32, want impl.Picture, wantCode int64) {
	t.Helper()
	p, code := impl.PictureOfSums(side, sums)
	wantPicture(t, "PictureOfSums", p, code, want, wantCode)
}

// forLists calls use with lists of all sizes and of the lengths that are told.
func forLists(n *numbers, lengths []int64, use func(a []float32)) {
	for _, r := range listRanges {
		for _, length := range lengths {
			for range 8 {
				use(n.list(length, r[0], r[1]))
			}
		}
	}
}

// Sums by codes, and back, are made by the rounds that the document tells: many of the lists would
// have other sums if the rounds had another order, or the sums of products were added up.
func TestSumsByCodesExactly(t *testing.T) {
	n, codes, others := numbers{510}, map[int64]int{}, [3]int{}
	forLists(&n, codeLengths, func(a []float32) {
		var there, back, falling, added calculation
		want, code := there.numbers(there.sumsByCodes(a))
		wantSums(t, a, want, code)
		wantList, wantCode := back.numbers(back.sumsBack(a))
		wantBack(t, a, wantList, wantCode)
		codes[code]++
		turned := distances(a)
		slices.Reverse(turned)
		if list, code := falling.numbers(falling.rounds(a, turned...)); code == impl.ErrNone && want != nil && !slices.Equal(list, want) {
			others[0]++
		}
		var sums []float32
		for k := range int64(len(a)) {
			sums = append(sums, added.productsInOrder(a, walshList(int64(len(a)), k), upwards(int64(len(a)))))
		}
		if !added.limit && want != nil && !slices.Equal(sums, want) {
			others[1]++
		}
		if (added.limit || falling.limit) != there.limit {
			others[2]++
		}
	})
	if codes[impl.ErrNone] < 300 || codes[impl.ErrLimit] < 50 || others[0] < 100 || others[1] < 100 {
		t.Errorf("codes of sums by codes: %v; others: %v", codes, others)
	}
}

func TestSumsByCodesByHand(t *testing.T) {
	wantSums(t, []float32{7}, []float32{7}, impl.ErrNone)
	wantBack(t, []float32{7}, []float32{7}, impl.ErrNone)
	wantSums(t, []float32{3, 5}, []float32{8, -2}, impl.ErrNone)
	wantBack(t, []float32{8, -2}, []float32{3, 5}, impl.ErrNone)
	wantSums(t, []float32{1, 2, 3, 4}, []float32{10, -2, -4, 0}, impl.ErrNone)
	wantBack(t, []float32{10, -2, -4, 0}, []float32{1, 2, 3, 4}, impl.ErrNone)
	wantBack(t, []float32{1, 2, 3, 4}, []float32{2.5, -0.5, -1, 0}, impl.ErrNone)
	wantSums(t, []float32{0, 1, 0, 0, 0, 0, 0, 0}, []float32{1, -1, 1, -1, 1, -1, 1, -1}, impl.ErrNone)
	wantSums(t, []float32{0, 0, 0, 0, 0, 0, 3, 0}, []float32{3, 3, -3, -3, -3, -3, 3, 3}, impl.ErrNone)
	for _, length := range codeLengths {
		wantSums(t, repeated(length, 2), repeatedBut(length, 0, 0, float32(2*length)), impl.ErrNone)
		wantBack(t, repeated(length, 2), repeatedBut(length, 0, 0, 2), impl.ErrNone)
		for k := range length {
			// One number at the place k has the code for k, as it is the same turned over.
			wantSums(t, repeatedBut(length, 0, k, 1), walshList(length, k), impl.ErrNone)
			wantSums(t, walshList(length, k), repeatedBut(length, 0, k, float32(length)), impl.ErrNone)
			wantBack(t, walshList(length, k), repeatedBut(length, 0, k, 1), impl.ErrNone)
		}
	}
}

// Neighbours are added first, and what is small is lost beside what is great: 2^24 and 1 end as 2^24,
// 1 and 1 as 2, and the sum of all four is 2^24 + 2, though from the left it is 2^24. With the
// distance 2 first, the sum of 2^24, 1, -2^24 and 1 would be 2.
func TestOrderOfRounds(t *testing.T) {
	const great = 1 << 24
	wantSums(t, []float32{great, 1, 1, 1}, []float32{great + 2, great - 1, great - 2, great - 1}, impl.ErrNone)
	wantSums(t, []float32{1, 1, 1, great}, []float32{great + 2, -(great - 1), -(great - 2), great - 1}, impl.ErrNone)
	wantSums(t, []float32{great, 1, -great, 1}, []float32{1, -1, 2 * great, 2 * great}, impl.ErrNone)
	wantSums(t, []float32{great, -great, 1, 1}, []float32{2, 2 * great, -2, 2 * great}, impl.ErrNone)
	wantSums(t, []float32{great, 1, 1, -great}, []float32{1, 2 * great, 2 * great, -1}, impl.ErrNone)
	wantBack(t, []float32{great, 1, 1, 1}, []float32{great/4 + 0.5, great/4 - 0.25, great/4 - 0.5, great/4 - 0.25}, impl.ErrNone)
}

// Sums back are divided at the end: 5 of the least numbers by 8 is one of them, but halved in each
// round there would be none; and sums that are too great are not saved by the division.
func TestSumsBackAreDividedAtTheEnd(t *testing.T) {
	wantBack(t, []float32{5 * least, 0, 0, 0, 0, 0, 0, 0}, repeated(8, least), impl.ErrNone)
	wantBack(t, []float32{4 * least, 0, 0, 0, 0, 0, 0, 0}, repeated(8, 0), impl.ErrNone)
	wantBack(t, repeated(4, least), []float32{least, 0, 0, 0}, impl.ErrNone)
	wantBack(t, []float32{least, 0, 0, least}, repeated(4, 0), impl.ErrNone)
	wantBack(t, []float32{3 * least, 0}, []float32{2 * least, 2 * least}, impl.ErrNone)
	wantBack(t, []float32{-3 * least, 0}, []float32{-2 * least, -2 * least}, impl.ErrNone)
	wantBack(t, []float32{0x1.000002p-126, 0}, []float32{0x1p-127, 0x1p-127}, impl.ErrNone)
	wantBack(t, []float32{most / 2, most / 2}, []float32{most / 2, 0}, impl.ErrNone)
	wantBack(t, []float32{most, most}, nil, impl.ErrLimit)
	for _, length := range codeLengths[1:] {
		wantBack(t, repeated(length, most), nil, impl.ErrLimit)
		wantBack(t, repeated(length, most/float32(length)), repeatedBut(length, 0, 0, most/float32(length)), impl.ErrNone)
		wantBack(t, repeatedBut(length, 0, 0, most), repeated(length, most/float32(length)), impl.ErrNone)
		wantBack(t, repeatedBut(length, 0, 0, 0x1.8p127), repeated(length, 0x1.8p127/float32(length)), impl.ErrNone)
	}
}

// What is not finite when it arises is ErrLimit. 2^103 is half a step of the greatest number: it is
// too much, and a little less is lost.
func TestLimitsOfSumsByCodes(t *testing.T) {
	const half, less, little = 0x1p103, 0x1.fffffep102, 0x1.8p78
	wantSums(t, []float32{most}, []float32{most}, impl.ErrNone)
	wantBack(t, []float32{-most}, []float32{-most}, impl.ErrNone)
	for _, length := range codeLengths[1:] {
		for place := range length {
			want := repeated(length, 0)
			for k := range length {
				want[k] = most * walshSign(k, place)
			}
			wantSums(t, repeatedBut(length, 0, place, most), want, impl.ErrNone)
			for other := range length {
				if other == place {
					continue
				}
				for _, x := range []float32{half, -half, most, -most} {
					a := repeatedBut(length, 0, place, most)
					a[other] = x
					wantSums(t, a, nil, impl.ErrLimit)
					wantBack(t, a, nil, impl.ErrLimit)
				}
				for _, x := range []float32{less, -less, 1, -least} {
					a := repeatedBut(length, 0, place, most)
					a[other] = x
					wantSums(t, a, want, impl.ErrNone)
				}
			}
		}
	}
	// The sum is finite from the left, as half a step does not come together there.
	wantSums(t, []float32{most, 0, less, little}, nil, impl.ErrLimit)
	wantSums(t, []float32{most, less, 0, little}, []float32{most, most, most, most}, impl.ErrNone)
	wantBack(t, []float32{most, 0, less, little}, nil, impl.ErrLimit)
	// Only the difference of the last round is not finite.
	wantSums(t, []float32{0x1p126, 0x1p126, -0x1p126, -0x1p126}, nil, impl.ErrLimit)
	wantSums(t, []float32{0x1p126, 0x1p126, 0x1p125, 0x1p125}, []float32{0x1.8p127, 0, 0x1p126, 0}, impl.ErrNone)
}

func TestSmallSumsByCodes(t *testing.T) {
	wantSums(t, []float32{least, 3 * least}, []float32{4 * least, -2 * least}, impl.ErrNone)
	wantSums(t, []float32{0x1p-126, -least}, []float32{0x1p-126 - least, 0x1p-126 + least}, impl.ErrNone)
	wantSums(t, []float32{1, least}, []float32{1, 1}, impl.ErrNone)
	wantSums(t, []float32{zeroBelow, zeroBelow}, []float32{0, 0}, impl.ErrNone)
	wantSums(t, []float32{zeroBelow, 5, zeroBelow, 0}, []float32{5, -5, 5, -5}, impl.ErrNone)
	wantBack(t, []float32{zeroBelow}, []float32{0}, impl.ErrNone)
	wantBack(t, []float32{least}, []float32{least}, impl.ErrNone)
	wantBack(t, []float32{zeroBelow, 6}, []float32{3, -3}, impl.ErrNone)
	wantBack(t, []float32{2 * least, 4 * least}, []float32{3 * least, -least}, impl.ErrNone)
}

func TestSumsOfPicturesExactly(t *testing.T) {
	n, codes, falling := numbers{511}, map[int64]int{}, 0
	for _, r := range listRanges {
		for _, side := range sides {
			for range 3 {
				p := n.picture(side, r[0], r[1])
				places := upwards(side * side)
				slices.Reverse(places)
				for k := range side * side {
					var c, other calculation
					want := c.sumOfPicture(p, k)
					if c.limit {
						want = 0
					}
					wantSumOf(t, p, k, want, c.code())
					codes[c.code()]++
					if sum := other.productsInOrder(p.Levels[:side*side], walshList(side*side, k), places); sum != want {
						falling++
					}
				}
			}
		}
	}
	if codes[impl.ErrNone] < 1000 || codes[impl.ErrLimit] < 200 || falling < 500 {
		t.Errorf("codes of sums of pictures: %v; %d others", codes, falling)
	}
}

func TestSumsOfPicturesByHand(t *testing.T) {
	const great = 1 << 24
	p := pictureOf(2, 1, 2, 3, 4)
	for k, want := range []float32{10, -2, -4, 0} {
		wantSumOf(t, p, int64(k), want, impl.ErrNone)
	}
	wantSumOf(t, pictureOf(2, 0, 3), 1, -3, impl.ErrNone)
	wantSumOf(t, pictureOf(1, 7), 0, 7, impl.ErrNone)
	wantSumOf(t, pictureOf(1, most), 0, most, impl.ErrNone)
	wantSumOf(t, even(8, 0.25), 0, 16, impl.ErrNone)
	wantSumOf(t, even(8, 0x1p121), 0, 0x1p127, impl.ErrNone)
	for k := range int64(64) {
		wantSumOf(t, evenBut(8, 0, 63, 5), k, 5*walshSign(k, 63), impl.ErrNone)
		wantSumOf(t, evenBut(8, 0, 9, least), k, least*walshSign(k, 9), impl.ErrNone)
	}
	// From the left, and not by rounds: what is small is lost beside what came before it.
	wantSumOf(t, pictureOf(2, great, 1, 1, 1), 0, great, impl.ErrNone)
	wantSumOf(t, pictureOf(2, 1, 1, 1, great), 0, great+4, impl.ErrNone)
	wantSumOf(t, pictureOf(2, great, 1, great, 1), 2, -1, impl.ErrNone)
	wantSumOf(t, pictureOf(2, 1, great, 1, great), 1, 2-2*great, impl.ErrNone)
	wantSumOf(t, pictureOf(2, great, 1, 1, great), 3, 2*great-2, impl.ErrNone)
	wantSumOf(t, signedPicture(pictureOf(2, 0, 3, 0, 0)), 3, -3, impl.ErrNone)
	wantSumOf(t, signedPicture(even(4, 0)), 5, 0, impl.ErrNone)
}

// What is too great on the way is ErrLimit, though another order would be finite.
func TestLimitsOfSumsOfPictures(t *testing.T) {
	const half, less = 0x1p103, 0x1.fffffep102
	wantSumOf(t, even(2, most), 0, 0, impl.ErrLimit)
	wantSumOf(t, even(2, most), 1, 0, impl.ErrNone)
	wantSumOf(t, even(2, most), 2, 0, impl.ErrLimit)
	wantSumOf(t, even(2, most), 3, 0, impl.ErrNone)
	wantSumOf(t, pictureOf(2, most, half, half, half), 0, 0, impl.ErrLimit)
	wantSumOf(t, pictureOf(2, half, half, half, most), 0, 0, impl.ErrLimit)
	wantSumOf(t, pictureOf(2, most, less, less, less), 0, most, impl.ErrNone)
	wantSumOf(t, pictureOf(2, 0, most, 0, half), 1, 0, impl.ErrLimit)
	wantSumOf(t, pictureOf(2, 0, most, 0, less), 1, -most, impl.ErrNone)
}

func TestPicturesOfSumsExactly(t *testing.T) {
	n, codes, replaced := numbers{512}, map[int64]int{}, 0
	for _, side := range sides {
		forLists(&n, []int64{side * side}, func(a []float32) {
			c := calculation{}
			want := c.pictureOfSums(side, a)
			if c.limit {
				want = impl.Picture{}
			} else if slices.ContainsFunc(c.sumsBack(a), func(x float32) bool { return x < 0 }) {
				replaced++
			}
			wantPictureOf(t, side, a, want, c.code())
			codes[c.code()]++
		})
	}
	if codes[impl.ErrNone] < 200 || codes[impl.ErrLimit] < 30 || replaced < 100 {
		t.Errorf("codes of pictures of sums: %v; %d with numbers less than 0", codes, replaced)
	}
}

func TestPicturesOfSumsByHand(t *testing.T) {
	wantPictureOf(t, 2, []float32{3, -3, 3, -3}, pictureOf(2, 0, 3), impl.ErrNone)
	wantPictureOf(t, 2, []float32{10, -2, -4, 0}, pictureOf(2, 1, 2, 3, 4), impl.ErrNone)
	wantPictureOf(t, 2, []float32{1, 2, 3, 4}, pictureOf(2, 2.5), impl.ErrNone)
	wantPictureOf(t, 2, []float32{-10, 2, 4, 0}, impl.Picture{Side: 2}, impl.ErrNone)
	wantPictureOf(t, 1, []float32{5}, pictureOf(1, 5), impl.ErrNone)
	wantPictureOf(t, 1, []float32{-5}, pictureOf(1, 0), impl.ErrNone)
	wantPictureOf(t, 1, []float32{-least}, pictureOf(1, 0), impl.ErrNone)
	wantPictureOf(t, 1, []float32{least}, pictureOf(1, least), impl.ErrNone)
	wantPictureOf(t, 1, []float32{most}, pictureOf(1, most), impl.ErrNone)
	wantPictureOf(t, 1, []float32{-most}, pictureOf(1, 0), impl.ErrNone)
	wantPictureOf(t, 4, repeated(16, 1), pictureOf(4, 1), impl.ErrNone)
	wantPictureOf(t, 4, repeated(16, -1), pictureOf(4), impl.ErrNone)
	wantPictureOf(t, 8, repeatedBut(64, 0, 0, 64), even(8, 1), impl.ErrNone)
	wantPictureOf(t, 8, repeatedBut(64, 0, 0, -64), even(8, 0), impl.ErrNone)
	wantPictureOf(t, 2, []float32{4 * least, 0, 0, -8 * least}, pictureOf(2, 0, 3*least, 3*least, 0), impl.ErrNone)
	wantPictureOf(t, 2, []float32{2 * least, 0, 0, 0}, pictureOf(2), impl.ErrNone)
	wantPictureOf(t, 2, []float32{3 * least, 0, 0, 0}, even(2, least), impl.ErrNone)
	for k := range int64(64) {
		want := impl.Picture{Side: 8}
		for j := range int64(64) {
			want.Levels[j] = max(0, walshSign(k, j))
		}
		wantPictureOf(t, 8, repeatedBut(64, 0, k, 64), want, impl.ErrNone)
	}
}

// Sums that are not finite are ErrLimit, and those less than 0 are not replaced instead.
func TestLimitsOfPicturesOfSums(t *testing.T) {
	for _, side := range sides[1:] {
		length := side * side
		wantPictureOf(t, side, repeated(length, most), impl.Picture{}, impl.ErrLimit)
		wantPictureOf(t, side, repeated(length, -most), impl.Picture{}, impl.ErrLimit)
		want := impl.Picture{Side: side}
		for k := range length {
			want.Levels[k] = max(0, most/float32(length)*walshSign(k, length-1))
		}
		wantPictureOf(t, side, repeatedBut(length, 0, length-1, most), want, impl.ErrNone)
		for place := int64(1); place < length; place++ {
			for _, x := range []float32{most, -most, 0x1p103, -0x1p103} {
				sums := repeatedBut(length, 0, 0, -most)
				sums[place] = x
				wantPictureOf(t, side, sums, impl.Picture{}, impl.ErrLimit)
			}
		}
	}
}
