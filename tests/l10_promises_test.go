package tests

import (
	"slices"
	"testing"

	"loop.example/g01225/impl"
)

// exactUpTo is the number up to which all whole numbers are numbers.
const exactUpTo = 1 << 24

// Promise 10 and guarantee: sums by codes and back, and back and forth, are exact for whole numbers
// whose sums are at most 2^24.
func TestSumsThereAndBack(t *testing.T) {
	n := numbers{530}
	for _, length := range codeLengths {
		for range 40 {
			for _, limit := range []int64{1, 9, 1000, exactUpTo / length} {
				a := n.whole(length, limit)
				sums, code := impl.SumsByCodes(a)
				wantNone(t, "SumsByCodes", code)
				wantBack(t, sums, a, impl.ErrNone)
				back, code := impl.SumsBack(a)
				wantNone(t, "SumsBack", code)
				wantSums(t, back, a, impl.ErrNone)
				for k, sum := range sums {
					exact := int64(0)
					for j, x := range a {
						exact += int64(x) * int64(walshSign(int64(k), int64(j)))
					}
					if int64(sum) != exact || back[k]*float32(length) != sum {
						t.Errorf("the sums %v and %v of %v for %d; want %d", sum, back[k], a, k, exact)
					}
				}
			}
		}
		wantBack(t, repeatedBut(length, 0, 0, exactUpTo), repeated(length, exactUpTo/float32(length)), impl.ErrNone)
	}
}

// Promise 15: pictures of whole numbers come back from their sums by all codes of Walsh.
func TestPicturesComeBackFromSums(t *testing.T) {
	n := numbers{531}
	for _, side := range sides {
		for range 30 {
			for _, limit := range []int64{1, 9, 1000, exactUpTo / (side * side)} {
				p := impl.Picture{Side: side}
				for i, x := range n.whole(side*side, limit) {
					p.Levels[i] = abs(x)
				}
				var sums []float32
				for k := range side * side {
					sum, code := impl.SumOfPicture(p, k)
					wantNone(t, "SumOfPicture", code)
					sums = append(sums, sum)
				}
				wantPictureOf(t, side, sums, p, impl.ErrNone)
				wantSums(t, p.Levels[:side*side], sums, impl.ErrNone)
			}
		}
		wantPictureOf(t, side, repeatedBut(side*side, 0, 0, exactUpTo), even(side, exactUpTo/float32(side*side)), impl.ErrNone)
	}
}

// Promise 10 and guarantee: shadows of scenes of whole numbers are decoded exactly, where all sums
// are at most 2^24.
func TestShadowsAreDecoded(t *testing.T) {
	n := numbers{532}
	for _, p := range codePrimes {
		for range 40 {
			for _, limit := range []int64{1, 9, 1000, exactUpTo / (p * (p + 1) / 2)} {
				scene := n.whole(p, limit)
				shadow, code := impl.ShadowOf(scene)
				wantNone(t, "ShadowOf", code)
				wantDecoded(t, shadow, scene, impl.ErrNone)
				for k, x := range shadow {
					exact := int64(0)
					for j, y := range scene {
						exact += int64(y) * int64(maskList(p)[(int64(k-j)+p)%p])
					}
					if int64(x) != exact {
						t.Errorf("the shadow of %v has %v at %d; want %d", scene, x, k, exact)
					}
				}
			}
		}
		for place := range p {
			scene := repeatedBut(p, 0, place, 5)
			shadow, code := impl.ShadowOf(scene)
			wantNone(t, "ShadowOf", code)
			wantDecoded(t, shadow, scene, impl.ErrNone)
		}
	}
}

// A codeCall has arguments of the functions of chapter 10.
type codeCall struct {
	sums, back, balanced, scene, shadow, first, second, levels []float32
	picture                                                    impl.Picture
	k                                                          int64
}

// lists returns all lists of the arguments.
func (a codeCall) lists() [][]float32 {
	return [][]float32{a.sums, a.back, a.balanced, a.scene, a.shadow, a.first, a.second, a.levels}
}

// codeCall returns arguments for a side, in which zeros occur.
func (n *numbers) codeCall(side int64) codeCall {
	length := side * side
	p := codePrimes[n.bits()%6]
	return codeCall{
		sums: n.list(length, -3, 3), back: n.list(length, -3, 3), balanced: legendreList(p),
		scene: n.list(p, -3, 3), shadow: n.list(p, -3, 3), first: n.list(length, -3, 3), second: n.list(length, -3, 3),
		levels: n.list(length, -3, 3), picture: n.picture(side, -3, 3), k: n.cell(side),
	}
}

// codesOf returns what the functions of chapter 10 make of arguments, and the lists that they return
// one by one.
func codesOf(t *testing.T, a codeCall) (all results, lists [][]float32) {
	t.Helper()
	addList := func(list []float32, code int64) {
		wantNone(t, "a function of lists", code)
		lists = append(lists, list)
		all.numbers = append(all.numbers, list...)
	}
	side := a.picture.Side
	addList(impl.WalshCode(side*side, a.k))
	addList(impl.LegendreCode(int64(len(a.balanced))))
	addList(impl.SumsByCodes(a.sums))
	addList(impl.SumsBack(a.back))
	addList(impl.ShadowOf(a.scene))
	addList(impl.DecodeShadow(a.shadow))
	addList(impl.CorrelateLists(a.first, a.second))
	addList(impl.CorrelateLists(a.first, a.first))
	sum, code := impl.SumOfPicture(a.picture, a.k)
	wantNone(t, "SumOfPicture", code)
	all.numbers = append(all.numbers, sum)
	isBalanced, code := impl.IsBalanced(a.balanced)
	if !isBalanced || code != impl.ErrNone {
		t.Errorf("IsBalanced(%v) = %t, %d", a.balanced, isBalanced, code)
	}
	w, code := impl.CodeWave(side, a.k)
	wantNone(t, "CodeWave", code)
	all.waves = append(all.waves, w)
	p, code := impl.PictureOfSums(side, a.levels)
	wantNone(t, "PictureOfSums", code)
	all.pictures = append(all.pictures, p)
	return all, lists
}

// Zeros of negative sign, also beyond the side, are zeros, and all further cells and levels of what
// arises are 0.
func TestZerosOfNegativeSignInCodes(t *testing.T) {
	n := numbers{533}
	for _, side := range sides {
		for range 12 {
			a := n.codeCall(side)
			want, _ := codesOf(t, a)
			want.wantOnSide(t, side)
			for _, list := range a.lists() {
				for i, x := range list {
					if x == 0 {
						list[i] = zeroBelow
					}
				}
			}
			a.picture = signedPicture(a.picture)
			got, _ := codesOf(t, a)
			got.wantOnSide(t, side)
			if !got.isSame(want) {
				t.Errorf("%v with zeros of negative sign: %v; want %v", a, got, want)
			}
		}
	}
}

// within returns a list as the middle of a longer one, which is returned, too.
func within(list []float32) (middle, whole []float32) {
	whole = slices.Concat([]float32{7, 8}, list, []float32{9, 10, 11})
	return whole[2 : 2+len(list)], whole
}

// Results depend on nothing but the arguments, which stay as they are, also behind their ends; lists
// that are returned share no memory with them or with each other, those of one number neither, and
// nothing is kept.
func TestCodesKeepNothing(t *testing.T) {
	n := numbers{534}
	for _, side := range sides {
		for range 8 {
			a := n.codeCall(side)
			var wholes, kept [][]float32
			for _, list := range []*[]float32{&a.sums, &a.back, &a.balanced, &a.scene, &a.shadow, &a.first, &a.second, &a.levels} {
				middle, whole := within(*list)
				*list = middle
				wholes, kept = append(wholes, whole), append(kept, slices.Clone(whole))
			}
			first, lists := codesOf(t, a)
			again, _ := codesOf(t, a)
			for i, list := range lists {
				spoil(list, float32(-100-i))
			}
			for i, list := range lists {
				if slices.ContainsFunc(list, func(x float32) bool { return x != float32(-100-i) }) {
					t.Errorf("the list %d is changed with another one: %v", i, list)
				}
			}
			// Errors leave nothing behind either.
			wantSums(t, repeated(64, most), nil, impl.ErrLimit)
			wantShadow(t, repeated(31, -most), nil, impl.ErrLimit)
			wantPictureOf(t, 8, repeated(64, -most), impl.Picture{}, impl.ErrLimit)
			last, _ := codesOf(t, a)
			if !again.isSame(first) || !last.isSame(first) {
				t.Errorf("the results of %v are changed", a)
			}
			for i, whole := range wholes {
				if !slices.Equal(whole, kept[i]) {
					t.Errorf("the argument %d is changed: %v instead of %v", i, whole, kept[i])
				}
			}
		}
	}
}

// The sums by codes of one number are this number in another list.
func TestListsOfOneNumber(t *testing.T) {
	for name, f := range map[string]func([]float32) ([]float32, int64){
		"SumsByCodes": impl.SumsByCodes,
		"SumsBack":    impl.SumsBack,
		"CorrelateLists": func(list []float32) ([]float32, int64) {
			return impl.CorrelateLists(list, []float32{1})
		},
	} {
		list := []float32{5}
		result, code := f(list)
		wantNone(t, name, code)
		spoil(result, 6)
		if list[0] != 5 {
			t.Errorf("%s shares memory: %v", name, list)
		}
		result, code = f(list)
		spoil(list, 7)
		if code != impl.ErrNone || !slices.Equal(result, []float32{5}) {
			t.Errorf("%s of one number = %v, %d", name, result, code)
		}
	}
}
