package tests

import (
	"fmt"
	"math"
	"slices"
	"testing"

	"loop.example/g01225/impl"
)

// A listFunction takes a list of one of some lengths, and reports whether its result is the zero
// value.
type listFunction struct {
	lengths []int64
	call    func(list []float32) (bool, int64)
}

// listFunctions returns all functions of one list; those of two get the same one twice.
func listFunctions() map[string]listFunction {
	ofList := func(f func(list []float32) ([]float32, int64)) func(list []float32) (bool, int64) {
		return func(list []float32) (bool, int64) {
			result, code := f(list)
			return len(result) == 0, code
		}
	}
	ofSide := func(side int64) func(list []float32) (bool, int64) {
		return func(list []float32) (bool, int64) {
			p, code := impl.PictureOfSums(side, list)
			return p == impl.Picture{}, code
		}
	}
	all := oneToLength(64)
	functions := map[string]listFunction{
		"SumsByCodes":    {codeLengths, ofList(impl.SumsByCodes)},
		"SumsBack":       {codeLengths, ofList(impl.SumsBack)},
		"ShadowOf":       {codePrimes, ofList(impl.ShadowOf)},
		"DecodeShadow":   {codePrimes, ofList(impl.DecodeShadow)},
		"CorrelateLists": {all, ofList(func(list []float32) ([]float32, int64) { return impl.CorrelateLists(list, list) })},
		"IsBalanced": {all, func(list []float32) (bool, int64) {
			isBalanced, code := impl.IsBalanced(list)
			return !isBalanced, code
		}},
		"PictureOfSums of 1": {[]int64{1}, ofSide(1)},
		"PictureOfSums of 2": {[]int64{4}, ofSide(2)},
		"PictureOfSums of 4": {[]int64{16}, ofSide(4)},
		"PictureOfSums of 8": {[]int64{64}, ofSide(8)},
	}
	for _, side := range noSides {
		functions[fmt.Sprint("PictureOfSums of ", side)] = listFunction{nil, ofSide(side)}
	}
	return functions
}

// oneToLength returns the lengths 1, 2, 3, .. up to a length.
func oneToLength(length int64) (lengths []int64) {
	for i := range length {
		lengths = append(lengths, i+1)
	}
	return lengths
}

// notNumbers are not numbers.
var notNumbers = []float32{nan, -nan, inf, -inf}

// someLengths are lengths of lists, of all kinds.
var someLengths = append(oneToLength(70), 127, 128, 256, 1000, 1<<16)

// wantListCode wants of a function with a list a code, and no result beside an error.
func wantListCode(t *testing.T, name string, f listFunction, list []float32, want int64) {
	t.Helper()
	isZero, code := f.call(list)
	if code != want || want != impl.ErrNone && !isZero {
		t.Errorf("%s of %d numbers from %v on: %t, %d; want %d", name, len(list), list[:min(3, len(list))], isZero, code, want)
	}
}

// Lists of a length that is not asked for are ErrRange, those with something that is no number, at
// whatever place, are ErrInvalid, whatever the length is, and only then there are limits.
func TestErrorsOfLists(t *testing.T) {
	for name, f := range listFunctions() {
		wantListCode(t, name, f, nil, impl.ErrRange)
		wantListCode(t, name, f, []float32{}, impl.ErrRange)
		for _, length := range someLengths {
			inRange := int64(impl.ErrRange)
			if slices.Contains(f.lengths, length) {
				inRange = impl.ErrNone
			}
			for _, x := range []float32{1, -1, 0, zeroBelow, least} {
				wantListCode(t, name, f, repeated(length, x), inRange)
			}
			great := inRange
			if inRange == impl.ErrNone && (length > 1 || name == "CorrelateLists") && name != "IsBalanced" {
				great = impl.ErrLimit
			}
			wantListCode(t, name, f, repeated(length, most), great)
			wantListCode(t, name, f, repeated(length, -most), great)
			for _, bad := range notNumbers {
				for _, place := range []int64{0, length / 2, length - 1} {
					wantListCode(t, name, f, repeatedBut(length, 1, place, bad), impl.ErrInvalid)
					wantListCode(t, name, f, repeatedBut(length, most, place, bad), impl.ErrInvalid)
				}
			}
		}
	}
}

// Every place of a list is looked at.
func TestNumbersOfListsAreChecked(t *testing.T) {
	for name, f := range listFunctions() {
		for _, length := range f.lengths {
			for place := range length {
				for _, bad := range notNumbers {
					wantListCode(t, name, f, repeatedBut(length, 1, place, bad), impl.ErrInvalid)
				}
			}
		}
	}
}

// Of two lists both are looked at for numbers before their lengths are compared.
func TestErrorsOfTwoLists(t *testing.T) {
	lengths := []int64{0, 1, 2, 3, 32, 63, 64, 65, 66, 128, 300}
	for _, first := range lengths {
		for _, second := range lengths {
			a, b := repeated(first, 1), repeated(second, 1)
			if first != second || first == 0 || first > 64 {
				wantCorrelation(t, a, b, nil, impl.ErrRange)
				wantCorrelation(t, repeated(first, most), repeated(second, most), nil, impl.ErrRange)
			} else {
				wantCorrelation(t, a, b, repeated(first, float32(first)), impl.ErrNone)
				wantCorrelation(t, repeated(first, most), repeated(second, -most), nil, impl.ErrLimit)
			}
			for _, bad := range notNumbers {
				for _, place := range []int64{0, first / 2, first - 1} {
					if first > 0 {
						wantCorrelation(t, repeatedBut(first, 1, place, bad), b, nil, impl.ErrInvalid)
						wantCorrelation(t, repeatedBut(first, most, place, bad), repeated(second, most), nil, impl.ErrInvalid)
					}
				}
				for _, place := range []int64{0, second / 2, second - 1} {
					if second > 0 {
						wantCorrelation(t, a, repeatedBut(second, 1, place, bad), nil, impl.ErrInvalid)
						wantCorrelation(t, repeated(first, most), repeatedBut(second, most, place, bad), nil, impl.ErrInvalid)
					}
				}
			}
		}
	}
	for _, one := range [][]float32{nil, {}} {
		for _, other := range [][]float32{nil, {}, {1}} {
			wantCorrelation(t, one, other, nil, impl.ErrRange)
			wantCorrelation(t, other, one, nil, impl.ErrRange)
		}
		wantCorrelation(t, one, []float32{nan}, nil, impl.ErrInvalid)
		wantCorrelation(t, []float32{inf}, one, nil, impl.ErrInvalid)
	}
}

// What is no picture is ErrInvalid with all k; numbers that are out of the range of a side are
// ErrRange, also where the sum is too great.
func TestErrorsOfSumsOfPictures(t *testing.T) {
	for _, p := range noPictures() {
		for _, k := range append(outside(0, 63), -1, 0, 1, 63, 64) {
			wantSumOf(t, p, k, 0, impl.ErrInvalid)
		}
	}
	for _, side := range sides {
		last := side*side - 1
		for _, k := range append(outside(0, last), -1, last+1, math.MinInt64, math.MaxInt64, 1<<32) {
			wantSumOf(t, even(side, 1), k, 0, impl.ErrRange)
			wantSumOf(t, even(side, most), k, 0, impl.ErrRange)
			if side < 8 {
				wantSumOf(t, evenBut(side, 1, 63, 1), k, 0, impl.ErrInvalid)
			}
			wantSumOf(t, evenBut(side, 1, last, -least), k, 0, impl.ErrInvalid)
			wantSumOf(t, evenBut(side, most, 0, nan), k, 0, impl.ErrInvalid)
		}
		wantSumOf(t, evenBut(side, 0, 0, 1), last, 1, impl.ErrNone)
		if side > 1 {
			wantSumOf(t, even(side, most), 0, 0, impl.ErrLimit)
		}
	}
}

// A side that is none, or not that of a list, is ErrRange whatever the other one is, but what is no
// number comes first.
func TestErrorsOfPicturesOfSums(t *testing.T) {
	lengths := []int64{0, 1, 2, 3, 4, 5, 8, 9, 15, 16, 17, 25, 36, 49, 63, 64, 65, 81, 256}
	for _, side := range append(slices.Clone(noSides), sides...) {
		for _, length := range lengths {
			isGood := slices.Contains(sides, side) && length == side*side
			if isGood {
				wantPictureOf(t, side, repeated(length, 0), impl.Picture{Side: side}, impl.ErrNone)
			} else {
				wantPictureOf(t, side, repeated(length, 0), impl.Picture{}, impl.ErrRange)
				wantPictureOf(t, side, repeated(length, most), impl.Picture{}, impl.ErrRange)
			}
			if length == 0 {
				wantPictureOf(t, side, nil, impl.Picture{}, impl.ErrRange)
				continue
			}
			for _, bad := range notNumbers {
				for _, place := range []int64{0, length / 2, length - 1} {
					wantPictureOf(t, side, repeatedBut(length, most, place, bad), impl.Picture{}, impl.ErrInvalid)
				}
			}
		}
	}
	// The products of these sides with themselves would be lengths of lists without the digits that
	// an integer has no room for.
	for _, side := range []int64{1 << 32, 1<<32 + 2, -2, -1, 1<<63 - 1, -1 << 63, 1<<62 + 1} {
		for _, length := range []int64{1, 4, 16, 64} {
			wantPictureOf(t, side, repeated(length, 1), impl.Picture{}, impl.ErrRange)
		}
	}
}

// What is neither 1 nor -1 is told only of lists of 1 to 64 numbers.
func TestErrorsOfBalancedLists(t *testing.T) {
	for _, length := range []int64{65, 66, 128, 1000} {
		for _, x := range []float32{1, -1, 0, 2, most} {
			wantBalanced(t, repeated(length, x), false, impl.ErrRange)
			wantBalanced(t, repeatedBut(length, x, length-1, nan), false, impl.ErrInvalid)
			wantBalanced(t, repeatedBut(length, inf, 0, x), false, impl.ErrInvalid)
		}
	}
	for _, length := range []int64{1, 2, 64} {
		for place := range length {
			wantBalanced(t, repeatedBut(length, 2, place, -inf), false, impl.ErrInvalid)
			wantBalanced(t, repeatedBut(length, most, place, nan), false, impl.ErrInvalid)
		}
	}
	wantBalanced(t, nil, false, impl.ErrRange)
	wantBalanced(t, []float32{}, false, impl.ErrRange)
}
