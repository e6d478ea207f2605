package tests

import (
	"slices"
	"testing"

	"loop.example/g01225/impl"
)

// wantShadow compares the shadow of a list with a list and a code.
func wantShadow(t *testing.T, a, want []float32, wantCode int64) {
	t.Helper()
	if list, code := impl.ShadowOf(a); !slices.Equal(list, want) || code != wantCode {
		t.Errorf("ShadowOf(%v) = %v, %d; want %v, %d", a, list, code, want, wantCode)
	}
}

// wantDecoded compares a decoded list with a list and a code.
func wantDecoded(t *testing.T, b, want []float32, wantCode int64) {
	t.Helper()
	if list, code := impl.DecodeShadow(b); !slices.Equal(list, want) || code != wantCode {
		t.Errorf("DecodeShadow(%v) = %v, %d; want %v, %d", b, list, code, want, wantCode)
	}
}

// wantCorrelation compares the correlation of two lists with a list and a code.
func wantCorrelation(t *testing.T, a, b, want []float32, wantCode int64) {
	t.Helper()
	if list, code := impl.CorrelateLists(a, b); !slices.Equal(list, want) || code != wantCode {
		t.Errorf("CorrelateLists(%v, %v) = %v, %d; want %v, %d", a, b, list, code, want, wantCode)
	}
}

// orders returns places in ascending and in descending order, and in ascending order from the middle
// on.
func orders(n int64) [3][]int64 {
	rising, falling, turned := upwards(n), upwards(n), upwards(n)
	slices.Reverse(falling)
	return [3][]int64{rising, falling, slices.Concat(turned[n/2:], turned[:n/2])}
}

// An ordered calculation tells whether both other orders would give other lists, and the codes of all
// three.
type ordered struct {
	areOthers bool
	codes     [3]int64
}

// wantInOrder calculates a list in all orders, and calls want with that of the places in ascending
// order.
func wantInOrder(n int64, calculate func(c *calculation, places []int64) []float32, want func(list []float32, code int64)) (o ordered) {
	var lists [3][]float32
	for i, places := range orders(n) {
		c := calculation{}
		lists[i], o.codes[i] = c.numbers(calculate(&c, places))
	}
	want(lists[0], o.codes[0])
	o.areOthers = !slices.Equal(lists[0], lists[1]) && !slices.Equal(lists[0], lists[2])
	return o
}

// wantShadowExactly compares the shadow of a list with what is calculated.
func wantShadowExactly(t *testing.T, a []float32) ordered {
	t.Helper()
	return wantInOrder(int64(len(a)),
		func(c *calculation, places []int64) []float32 { return c.shadow(a, places) },
		func(list []float32, code int64) { t.Helper(); wantShadow(t, a, list, code) })
}

// wantDecodedExactly compares a decoded list with what is calculated.
func wantDecodedExactly(t *testing.T, b []float32) ordered {
	t.Helper()
	return wantInOrder(int64(len(b)),
		func(c *calculation, places []int64) []float32 { return c.decoded(b, places) },
		func(list []float32, code int64) { t.Helper(); wantDecoded(t, b, list, code) })
}

// wantCorrelationExactly compares the correlation of two lists with what is calculated.
func wantCorrelationExactly(t *testing.T, a, b []float32) ordered {
	t.Helper()
	return wantInOrder(int64(len(a)),
		func(c *calculation, places []int64) []float32 { return c.correlation(a, b, places) },
		func(list []float32, code int64) { t.Helper(); wantCorrelation(t, a, b, list, code) })
}

// Shadows and decoded lists are taken from 0 on for j in ascending order: many of the lists would have
// others in another order.
func TestShadowsExactly(t *testing.T) {
	n, found, others := numbers{520}, [2]map[int64]int{{}, {}}, [2]int{}
	forLists(&n, codePrimes, func(a []float32) {
		for i, f := range []func(*testing.T, []float32) ordered{wantShadowExactly, wantDecodedExactly} {
			o := f(t, a)
			found[i][o.codes[0]]++
			if o.areOthers {
				others[i]++
			}
		}
	})
	for i, codes := range found {
		if codes[impl.ErrNone] < 250 || codes[impl.ErrLimit] < 50 || others[i] < 100 {
			t.Errorf("codes of shadows and decoded lists: %v; others: %v", found, others)
		}
	}
}

func TestShadowsByHand(t *testing.T) {
	wantShadow(t, []float32{5, 0, 0}, []float32{5, 5, 0}, impl.ErrNone)
	wantShadow(t, []float32{0, 5, 0}, []float32{0, 5, 5}, impl.ErrNone)
	wantShadow(t, []float32{0, 0, 5}, []float32{5, 0, 5}, impl.ErrNone)
	wantShadow(t, []float32{1, 2, 4}, []float32{5, 3, 6}, impl.ErrNone)
	wantDecoded(t, []float32{5, 3, 6}, []float32{1, 2, 4}, impl.ErrNone)
	wantDecoded(t, []float32{1, 0, 0}, []float32{0.5, -0.5, 0.5}, impl.ErrNone)
	wantDecoded(t, []float32{0, 1, 0}, []float32{0.5, 0.5, -0.5}, impl.ErrNone)
	wantDecoded(t, []float32{0, 0, 1}, []float32{-0.5, 0.5, 0.5}, impl.ErrNone)
	wantShadow(t, []float32{0, 1, 0, 0, 0, 0, 0}, []float32{0, 1, 1, 1, 0, 1, 0}, impl.ErrNone)
	wantShadow(t, []float32{5, 0, 0, 0, 0, 0, 2}, []float32{7, 7, 5, 2, 5, 0, 2}, impl.ErrNone)
	wantDecoded(t, []float32{7, 7, 5, 2, 5, 0, 2}, []float32{5, 0, 0, 0, 0, 0, 2}, impl.ErrNone)
	wantDecoded(t, []float32{0, 4, 0, 0, 0, 0, 0}, []float32{1, 1, -1, -1, 1, -1, 1}, impl.ErrNone)
	for _, p := range codePrimes {
		mask, signs := maskList(p), legendreList(p)
		ones := float32((p + 1) / 2)
		wantShadow(t, repeated(p, 2), repeated(p, 2*ones), impl.ErrNone)
		wantDecoded(t, repeated(p, ones), repeated(p, 1), impl.ErrNone)
		for place := range p {
			shadow := taken(mask, func(k int64) int64 { return k - place })
			wantShadow(t, repeatedBut(p, 0, place, 3), scaledList(shadow, 3), impl.ErrNone)
			wantDecoded(t, repeatedBut(p, 0, place, ones), taken(signs, func(k int64) int64 { return place - k }), impl.ErrNone)
		}
	}
}

// scaledList returns a list with all numbers multiplied by one.
func scaledList(list []float32, by float32) (scaled []float32) {
	for _, x := range list {
		scaled = append(scaled, by*x)
	}
	return scaled
}

// Sums begin with the first number of the list: what is small is lost beside what came before it.
func TestOrderOfShadows(t *testing.T) {
	const great = 1 << 24
	// The mask of 7 has 1 at 0, 1, 2 and 4; the places that it sums up for 6 are 2, 4, 5 and 6.
	wantShadowAt(t, []float32{0, 0, great, 0, 1, 1, 1}, 6, great)
	wantShadowAt(t, []float32{0, 0, 1, 0, 1, 1, great}, 6, great+4)
	wantShadowAt(t, []float32{0, 0, great, 0, 1, -great, 1}, 6, 1)
	wantShadowAt(t, []float32{0, 0, 1, 0, great, 1, -great}, 6, 0)
	// For 0 they are 0, 3, 5 and 6: the list begins at 0, and not where the mask does.
	wantShadowAt(t, []float32{great, 0, 0, 1, 0, 1, 1}, 0, great)
	wantShadowAt(t, []float32{1, 0, 0, 1, 0, 1, great}, 0, great+4)
	// The code for 1 has -1 at 4, 6 and 0, and 1 at 1, 2, 3 and 5.
	wantDecodedAt(t, []float32{0, great, 1, 1, 0, 1, 0}, 1, great/4)
	wantDecodedAt(t, []float32{0, 1, 1, 1, 0, great, 0}, 1, great/4+1)
	wantDecodedAt(t, []float32{-great, 1, 1, 1, 0, 1, 0}, 1, great/4)
	wantDecodedAt(t, []float32{great, great, 0, 0, -3, 0, 4}, 1, -0.25)
	wantDecodedAt(t, []float32{-1, great, 0, 0, 0, 0, great}, 1, 0)
	wantDecodedAt(t, []float32{0, great, 0, 0, 0, 0, great - 1}, 1, 0.25)
}

// wantShadowAt compares the shadow of a list at a place with a number.
func wantShadowAt(t *testing.T, a []float32, k int, want float32) {
	t.Helper()
	if list, code := impl.ShadowOf(a); code != impl.ErrNone || list[k] != want {
		t.Errorf("ShadowOf(%v) = %v, %d; want %v at %d", a, list, code, want, k)
	}
}

// wantDecodedAt compares a decoded list at a place with a number.
func wantDecodedAt(t *testing.T, b []float32, k int, want float32) {
	t.Helper()
	if list, code := impl.DecodeShadow(b); code != impl.ErrNone || list[k] != want {
		t.Errorf("DecodeShadow(%v) = %v, %d; want %v at %d", b, list, code, want, k)
	}
}

// Decoded sums are divided at the end, once and by a quotient: a product with a sixth or a tenth would
// be another number, and so would be quotients that are added.
func TestDecodedListsAreDivided(t *testing.T) {
	products, added := 0, 0
	n := numbers{521}
	for _, p := range codePrimes {
		ones := float32((p + 1) / 2)
		for range 50 {
			x := n.next(-3, 3)
			want := repeated(p, 0)
			for k, sign := range taken(legendreList(p), func(k int64) int64 { return 2 - k }) {
				want[k] = exactQuotient(sign*x, ones)
			}
			wantDecoded(t, repeatedBut(p, 0, 2, x), want, impl.ErrNone)
			if x*(1/ones) != exactQuotient(x, ones) {
				products++
			}
			list := n.list(p, -3, 3)
			c, quotients := calculation{}, calculation{}
			wantDecoded(t, list, c.decoded(list, upwards(p)), impl.ErrNone)
			var sums []float32
			for k := range p {
				sums = append(sums, quotients.productsInOrder(quotients.divided(list, ones), taken(legendreList(p), func(j int64) int64 { return j - k }), upwards(p)))
			}
			if !slices.Equal(sums, c.decoded(list, upwards(p))) {
				added++
			}
		}
	}
	if products < 20 || added < 100 {
		t.Errorf("%d products and %d sums that are others", products, added)
	}
	wantDecoded(t, repeatedBut(11, 0, 0, 1), scaledList(taken(legendreList(11), func(k int64) int64 { return -k }), exactQuotient(1, 6)), impl.ErrNone)
}

// Numbers below the normal ones, and quotients of these.
func TestSmallShadows(t *testing.T) {
	wantShadow(t, []float32{least, 2 * least, 0x1p-126}, []float32{least + 0x1p-126, 3 * least, 2*least + 0x1p-126}, impl.ErrNone)
	wantShadow(t, []float32{zeroBelow, zeroBelow, -least}, []float32{-least, 0, -least}, impl.ErrNone)
	wantDecoded(t, []float32{least, 0, 0}, []float32{0, 0, 0}, impl.ErrNone)
	wantDecoded(t, []float32{3 * least, zeroBelow, 0}, []float32{2 * least, -2 * least, 2 * least}, impl.ErrNone)
	wantDecoded(t, []float32{least, least, least}, []float32{0, 0, 0}, impl.ErrNone)
	wantDecoded(t, repeatedBut(11, 0, 0, 3*least), repeated(11, 0), impl.ErrNone)
	wantDecoded(t, repeatedBut(11, 0, 0, 4*least), scaledList(taken(legendreList(11), func(k int64) int64 { return -k }), least), impl.ErrNone)
	for _, p := range codePrimes {
		wantShadow(t, repeated(p, zeroBelow), repeated(p, 0), impl.ErrNone)
		wantDecoded(t, repeated(p, zeroBelow), repeated(p, 0), impl.ErrNone)
	}
}

// What is not finite when it arises is ErrLimit, though another order, or the quotient, would be
// finite.
func TestLimitsOfShadows(t *testing.T) {
	const half, less = 0x1p103, 0x1.fffffep102
	for _, p := range codePrimes {
		ones := float32((p + 1) / 2)
		for place := range p {
			wantShadow(t, repeatedBut(p, 0, place, most), scaledList(taken(maskList(p), func(k int64) int64 { return k - place }), most), impl.ErrNone)
			wantDecoded(t, repeatedBut(p, 0, place, most), scaledList(taken(legendreList(p), func(k int64) int64 { return place - k }), most/ones), impl.ErrNone)
			for other := range p {
				if other == place {
					continue
				}
				for _, x := range []float32{most, half} {
					a := repeatedBut(p, 0, place, most)
					a[other] = x
					// Some place of the mask has both numbers, and of the code, too.
					wantShadow(t, a, nil, impl.ErrLimit)
					wantDecoded(t, a, nil, impl.ErrLimit)
					a[place], a[other] = -most, -x
					wantShadow(t, a, nil, impl.ErrLimit)
					wantDecoded(t, a, nil, impl.ErrLimit)
				}
				a := repeatedBut(p, 0, place, most)
				a[other] = less
				wantDecoded(t, a, scaledList(taken(legendreList(p), func(k int64) int64 { return place - k }), most/ones), impl.ErrNone)
			}
		}
	}
}

// thirds returns a list with a number, its opposite and 0.
func (n *numbers) thirds(length int64, x float32) (list []float32) {
	for range length {
		list = append(list, []float32{x, -x, 0}[n.bits()%3])
	}
	return list
}

// Great numbers take each other away in some orders, and in others their sums leave the range first:
// those of three numbers 0x1.8p126, or of four 0x1p126.
func TestLimitsByOrder(t *testing.T) {
	n, stopped, passed := numbers{523}, [3]int{}, [3]int{}
	for range 2500 {
		calculations := []ordered{
			wantShadowExactly(t, n.thirds(7, 0x1.8p126)),
			wantDecodedExactly(t, n.thirds(7, 0x1p126)),
			wantCorrelationExactly(t, n.thirds(7, 0x1p126), n.thirds(7, 1)),
		}
		for i, o := range calculations {
			if o.codes[0] == impl.ErrLimit && min(o.codes[1], o.codes[2]) == impl.ErrNone {
				stopped[i]++
			}
			if o.codes[0] == impl.ErrNone && max(o.codes[1], o.codes[2]) == impl.ErrLimit {
				passed[i]++
			}
		}
	}
	if slices.Min(stopped[:]) < 10 || slices.Min(passed[:]) < 10 {
		t.Errorf("limits in one order only: %v and %v", stopped, passed)
	}
	// The sums at 0 are those of the places 0 and 2, at 1 of 0 and 1, and at 2 of 1 and 2.
	wantShadow(t, []float32{0x1p127, -0x1p127, 0}, []float32{0x1p127, 0, -0x1p127}, impl.ErrNone)
	wantShadow(t, []float32{0x1p127, 0, 0x1p127}, nil, impl.ErrLimit)
	wantDecoded(t, []float32{0x1p127, 0x1p127, 0x1p127}, nil, impl.ErrLimit)
}

// Correlations are taken from 0 on for j in ascending order.
func TestCorrelationsExactly(t *testing.T) {
	n, codes, others := numbers{522}, map[int64]int{}, 0
	for _, r := range [][2]int{{-3, 3}, {-30, 30}, {-75, -73}, {-100, 30}, {60, 63}, {61, 62}, {63, 64}, {-20, 100}} {
		for _, length := range []int64{1, 2, 3, 4, 5, 6, 7, 8, 13, 31, 32, 33, 63, 64} {
			for range 4 {
				o := wantCorrelationExactly(t, n.list(length, r[0], r[1]), n.list(length, r[0], r[1]))
				codes[o.codes[0]]++
				if o.areOthers {
					others++
				}
			}
		}
	}
	if codes[impl.ErrNone] < 200 || codes[impl.ErrLimit] < 50 || others < 100 {
		t.Errorf("codes of correlations: %v; %d others", codes, others)
	}
}

func TestCorrelationsByHand(t *testing.T) {
	wantCorrelation(t, []float32{1, 2}, []float32{3, 4}, []float32{11, 10}, impl.ErrNone)
	wantCorrelation(t, []float32{3}, []float32{-4}, []float32{-12}, impl.ErrNone)
	wantCorrelation(t, []float32{1, 10, 100}, []float32{2, 3, 5}, []float32{532, 253, 325}, impl.ErrNone)
	wantCorrelation(t, []float32{2, 3, 5}, []float32{1, 10, 100}, []float32{532, 325, 253}, impl.ErrNone)
	wantCorrelation(t, []float32{0, 1, 0, 0}, []float32{5, 6, 7, 8}, []float32{6, 7, 8, 5}, impl.ErrNone)
	wantCorrelation(t, []float32{5, 6, 7, 8}, []float32{0, 1, 0, 0}, []float32{6, 5, 8, 7}, impl.ErrNone)
	for _, length := range []int64{1, 2, 7, 63, 64} {
		wantCorrelation(t, repeated(length, 2), repeated(length, 3), repeated(length, float32(6*length)), impl.ErrNone)
		wantCorrelation(t, repeated(length, 0), repeated(length, most), repeated(length, 0), impl.ErrNone)
		wantCorrelation(t, repeated(length, zeroBelow), repeated(length, -1), repeated(length, 0), impl.ErrNone)
		list := oneTo(length)
		for place := range length {
			one := repeatedBut(length, 0, place, 1)
			wantCorrelation(t, one, list, taken(list, func(k int64) int64 { return place + k }), impl.ErrNone)
			wantCorrelation(t, list, one, taken(list, func(k int64) int64 { return place - k }), impl.ErrNone)
		}
	}
}

// oneTo returns the numbers 1, 2, 3, .. up to a length.
func oneTo(length int64) (list []float32) {
	for i := range length {
		list = append(list, float32(i+1))
	}
	return list
}

// Sums begin with the first products, and each product is rounded before it is added: 3 and a product
// that ends as 1 + 2^-22 add up to 4, and with what this product has been before to the next number.
func TestOrderOfCorrelations(t *testing.T) {
	const great, one = 1 << 24, 1 + 0x1p-23
	wantCorrelationAt(t, []float32{great, 1, 1, 1}, repeated(4, 1), 0, great)
	wantCorrelationAt(t, []float32{1, 1, 1, great}, repeated(4, 1), 0, great+4)
	wantCorrelationAt(t, repeated(4, 1), []float32{great, 1, 1, 1}, 0, great)
	// The first list goes up from 0 on, wherever the second one begins.
	wantCorrelationAt(t, repeated(4, 1), []float32{great, 1, 1, 1}, 1, great+4)
	wantCorrelationAt(t, repeated(4, 1), []float32{great, 1, 1, 1}, 2, great+4)
	wantCorrelationAt(t, repeated(4, 1), []float32{great, 1, 1, 1}, 3, great)
	wantCorrelationAt(t, []float32{1, great, -great, 1}, repeated(4, 1), 3, 1)
	wantCorrelationAt(t, []float32{3, one}, []float32{1, one}, 0, 4)
	wantCorrelationAt(t, []float32{-3, one}, []float32{1, -one}, 0, -4)
	wantCorrelationAt(t, []float32{one, -1 - 0x1p-22}, []float32{one, 1}, 0, 0)
	wantCorrelationAt(t, []float32{1 + 0x1p-22, one}, []float32{-1, one}, 0, 0)
}

// wantCorrelationAt compares the correlation of two lists at a place with a number.
func wantCorrelationAt(t *testing.T, a, b []float32, k int, want float32) {
	t.Helper()
	if list, code := impl.CorrelateLists(a, b); code != impl.ErrNone || list[k] != want {
		t.Errorf("CorrelateLists(%v, %v) = %v, %d; want %v at %d", a, b, list, code, want, k)
	}
}

// Products are rounded to numbers below the normal ones, and to 0; great ones may not be finite, also
// where another order, or the sum of what they have been before, would be.
func TestSmallAndGreatCorrelations(t *testing.T) {
	const half, less = 0x1p103, 0x1.fffffep102
	wantCorrelation(t, []float32{0x1p-75}, []float32{0x1p-75}, []float32{0}, impl.ErrNone)
	wantCorrelation(t, []float32{0x1.8p-75}, []float32{0x1p-75}, []float32{least}, impl.ErrNone)
	wantCorrelation(t, []float32{0x1p-75, 0x1p-75}, []float32{0x1p-75, 0x1p-75}, []float32{0, 0}, impl.ErrNone)
	wantCorrelation(t, []float32{least, 0.5}, []float32{0.5, least}, []float32{0, 0.25}, impl.ErrNone)
	wantCorrelation(t, []float32{least}, []float32{most}, []float32{least * most}, impl.ErrNone)
	wantCorrelation(t, []float32{most}, []float32{-1}, []float32{-most}, impl.ErrNone)
	wantCorrelation(t, []float32{0x1p64}, []float32{0x1p64}, nil, impl.ErrLimit)
	wantCorrelation(t, []float32{0x1p64}, []float32{0x1.fffffep63}, []float32{most}, impl.ErrNone)
	wantCorrelation(t, []float32{most}, []float32{1 + 0x1p-23}, nil, impl.ErrLimit)
	wantCorrelation(t, []float32{0x1p64, 0x1p64}, []float32{0x1p64, -0x1p64}, nil, impl.ErrLimit)
	wantCorrelation(t, []float32{most, most}, []float32{1, -1}, []float32{0, 0}, impl.ErrNone)
	wantCorrelation(t, []float32{most, most, most, most}, []float32{1, -1, 1, -1}, repeated(4, 0), impl.ErrNone)
	wantCorrelation(t, []float32{most, most, most, most}, []float32{1, 1, -1, -1}, nil, impl.ErrLimit)
	for length := int64(2); length <= 64; length++ {
		for _, place := range []int64{0, 1, length / 2, length - 1} {
			a := repeatedBut(length, 0, place, most)
			wantCorrelation(t, a, repeated(length, 1), repeated(length, most), impl.ErrNone)
			wantCorrelation(t, a, repeatedBut(length, 1, place, 2), nil, impl.ErrLimit)
			wantCorrelation(t, repeatedBut(length, 1, place, 2), a, nil, impl.ErrLimit)
			a[(place+1)%length] = less
			wantCorrelation(t, a, repeated(length, 1), repeated(length, most), impl.ErrNone)
			a[(place+1)%length] = half
			wantCorrelation(t, a, repeated(length, 1), nil, impl.ErrLimit)
			wantCorrelation(t, repeated(length, -1), a, nil, impl.ErrLimit)
		}
	}
}

// Lists may be the same one, or share memory.
func TestCorrelationsOfOneList(t *testing.T) {
	whole := []float32{1, 2, 4, 8, 16}
	wantCorrelation(t, whole[:3], whole[:3], []float32{21, 14, 14}, impl.ErrNone)
	wantCorrelation(t, whole[:3], whole[1:4], []float32{42, 28, 28}, impl.ErrNone)
	wantCorrelation(t, whole[2:], whole[:3], []float32{84, 56, 56}, impl.ErrNone)
	if !slices.Equal(whole, []float32{1, 2, 4, 8, 16}) {
		t.Errorf("the list is changed: %v", whole)
	}
}
