package tests

import (
	"fmt"
	"math"
	"slices"
	"strings"
	"testing"

	"loop.example/g01225/impl"
)

// A lightCall has arguments of the functions of sources.
type lightCall struct {
	light
	p, q int64
}

// goodLight returns arguments with which no function has an error.
func goodLight(side int64) lightCall {
	list := []impl.Wave{flat(side, 1), flat(side, 2i), flat(side, -3)}
	return lightCall{light{list, []float32{2, 1, 3}}, side*side - 1, 0}
}

// A lightFunction is called with some of the arguments, which are named, and reports whether its
// result is the zero value.
type lightFunction struct {
	uses string
	call func(s lightCall) (bool, int64)
}

// lightFunctions returns all functions of sources that return a code.
func lightFunctions() map[string]lightFunction {
	const source, at = "wave side none long weight below count limit", " p q"
	return map[string]lightFunction{
		"InnerTable": {"wave side none long limit", func(s lightCall) (bool, int64) {
			table, code := impl.InnerTable(s.list)
			return len(table) == 0, code
		}},
		"MutualNumber": {source + at, func(s lightCall) (bool, int64) {
			z, code := impl.MutualNumber(s.list, s.weights, s.p, s.q)
			return z == 0, code
		}},
		"SourceIntensity": {source, func(s lightCall) (bool, int64) {
			picture, code := impl.SourceIntensity(s.list, s.weights)
			return picture == impl.Picture{}, code
		}},
		"DegreeOf": {source + at + " dark", func(s lightCall) (bool, int64) {
			x, code := impl.DegreeOf(s.list, s.weights, s.p, s.q)
			return x == 0, code
		}},
		"VisibilityOf": {source + at + " dark", func(s lightCall) (bool, int64) {
			x, code := impl.VisibilityOf(s.list, s.weights, s.p, s.q)
			return x == 0, code
		}},
		"FringesOf": {source + at, func(s lightCall) (bool, int64) {
			list, code := impl.FringesOf(s.list, s.weights, s.p, s.q)
			return len(list) == 0, code
		}},
		"MixWaves": {source, func(s lightCall) (bool, int64) {
			w, code := impl.MixWaves(s.list, s.weights)
			return w == impl.Wave{}, code
		}},
	}
}

// A lightFault is something about an argument, named as above, that leads to a code.
type lightFault struct {
	about string
	code  int64
	apply func(s *lightCall)
}

// faultsOfLists returns faults of the waves of a source of a side.
func faultsOfLists(side int64) (faults []lightFault) {
	for place := range 3 {
		for _, bad := range noWaves() {
			faults = append(faults, lightFault{"wave", impl.ErrInvalid, func(s *lightCall) {
				if place < len(s.list) {
					s.list[place] = bad
				}
			}})
		}
		for _, other := range sides {
			if other != side {
				faults = append(faults, lightFault{"side", impl.ErrRange, func(s *lightCall) {
					if place < len(s.list) && impl.IsWave(s.list[place]) {
						s.list[place] = flat(other, 1)
					}
				}})
			}
		}
	}
	return append(faults,
		lightFault{"limit", impl.ErrLimit, func(s *lightCall) {
			for i, w := range s.list {
				if impl.IsWave(w) {
					s.list[i] = flat(w.Side, most)
				}
			}
		}},
		lightFault{"long", impl.ErrRange, func(s *lightCall) {
			s.list = append(s.list, slices.Repeat([]impl.Wave{flat(side, 1)}, 14)...)
			s.weights = append(s.weights, slices.Repeat([]float32{1}, 14)...)
		}},
	)
}

// faultsOfWeights returns faults of the weights of a source, of their numbers, and of p and q.
func faultsOfWeights(side int64) (faults []lightFault) {
	for place := range 3 {
		for _, bad := range []float32{nan, -nan, inf, -inf} {
			faults = append(faults, lightFault{"weight", impl.ErrInvalid, func(s *lightCall) { s.weights[place] = bad }})
		}
		for _, bad := range []float32{-least, -1, -most} {
			faults = append(faults, lightFault{"below", impl.ErrRange, func(s *lightCall) {
				// A weight that is not a number remains one of those.
				if math.Abs(float64(s.weights[place])) <= most {
					s.weights[place] = bad
				}
			}})
		}
	}
	for _, k := range append(outside(0, side*side-1), -1, side*side) {
		faults = append(faults,
			lightFault{"p", impl.ErrRange, func(s *lightCall) { s.p = k }},
			lightFault{"q", impl.ErrRange, func(s *lightCall) { s.q = k }},
		)
	}
	return append(faults,
		lightFault{"count", impl.ErrRange, func(s *lightCall) { s.weights = append(s.weights, 1) }},
		lightFault{"count", impl.ErrRange, func(s *lightCall) { s.weights = append(s.weights, make([]float32, 14)...) }},
		lightFault{"dark", impl.ErrState, func(s *lightCall) {
			for i, weight := range s.weights {
				if weight > 0 && weight <= most {
					s.weights[i] = 0
				}
			}
		}},
	)
}

// lightFaults returns all faults for a side.
func lightFaults(side int64) []lightFault {
	return append(faultsOfLists(side), faultsOfWeights(side)...)
}

// isBefore reports whether a code is looked for before another one.
func isBefore(code, other int64) bool {
	order := []int64{impl.ErrInvalid, impl.ErrRange, impl.ErrState, impl.ErrLimit, impl.ErrNone}
	return slices.Index(order, code) < slices.Index(order, other)
}

// wantLightCodes calls all functions with faults, and wants of each one no result and the first code
// of those that are about its arguments, and ErrNone without any.
func wantLightCodes(t *testing.T, side int64, faults ...lightFault) {
	t.Helper()
	isSource := true
	for name, f := range lightFunctions() {
		s, want, text := goodLight(side), int64(impl.ErrNone), ""
		for _, fault := range faults {
			fault.apply(&s)
			text += fmt.Sprintf(" %s (%d)", fault.about, fault.code)
			if slices.Contains(strings.Fields(f.uses), fault.about) && isBefore(fault.code, want) {
				want = fault.code
			}
		}
		isZero, code := f.call(s)
		if code != want || want != impl.ErrNone && !isZero {
			t.Errorf("%s of the side %d with faults%s: %t, %d; want %d", name, side, text, isZero, code, want)
		}
		if name == "MixWaves" && (want == impl.ErrInvalid || want == impl.ErrRange) {
			isSource = false
		}
	}
	s := goodLight(side)
	for _, fault := range faults {
		fault.apply(&s)
	}
	wantSource(t, s.list, s.weights, isSource)
}

func TestErrorsOfSources(t *testing.T) {
	for _, side := range sides {
		wantLightCodes(t, side)
		for _, fault := range lightFaults(side) {
			wantLightCodes(t, side, fault)
		}
	}
}

// Of two faults the one whose code is looked for first is met, whatever they are about, but functions
// do not care about arguments that they do not have. (Great cells with weights of 0 are in other
// tests.)
func TestOrderOfErrorsOfSources(t *testing.T) {
	for _, side := range sides {
		var faults []lightFault
		counts := map[string]int{}
		for _, fault := range lightFaults(side) {
			kind := fmt.Sprint(fault.about, fault.code)
			if counts[kind]++; counts[kind] <= 3 {
				faults = append(faults, fault)
			}
		}
		for _, first := range faults {
			for _, second := range faults {
				isGreatAndDark := first.about == "limit" && second.about == "dark" || first.about == "dark" && second.about == "limit"
				if first.about != second.about && !isGreatAndDark {
					wantLightCodes(t, side, first, second)
				}
			}
		}
	}
}

// wantSourceErrors wants a code of all functions with waves, weights and the cells 0 and 0.
func wantSourceErrors(t *testing.T, s light, want int64) {
	t.Helper()
	for name, f := range lightFunctions() {
		if isZero, code := f.call(lightCall{s, 0, 0}); name != "InnerTable" && (!isZero || code != want) {
			t.Errorf("%s(%v) = %t, %d; want %d", name, s, isZero, code, want)
		}
	}
}

// Lists of all lengths, and nil as well as empty ones, with a place p and q that would be allowed.
func TestLengthsOfSources(t *testing.T) {
	for _, side := range sides {
		for _, waves := range []int{0, 1, 2, 15, 16, 17, 18, 300} {
			for _, weights := range []int{0, 1, 2, 15, 16, 17, 18, 300} {
				s := light{slices.Repeat([]impl.Wave{flat(side, 1)}, waves), slices.Repeat([]float32{1}, weights)}
				if waves != weights || waves == 0 || waves > 16 {
					wantSourceErrors(t, s, impl.ErrRange)
				} else {
					wantMixed(t, s, flat(side, complex(float32(waves), 0)), impl.ErrNone)
					wantSourceIntensity(t, s, even(side, float32(waves)), impl.ErrNone)
					wantMutual(t, s, 0, side*side-1, complex(float32(waves), 0), impl.ErrNone)
					wantFringesAt(t, light{s.list, make([]float32, weights)}, 0, 0, make([]float32, 64), impl.ErrNone)
				}
				// What is invalid comes first, in lists that are too long or too short as in others.
				if waves > 0 {
					s.list[waves-1].Cells[0] = complex(0, nan)
					wantSourceErrors(t, s, impl.ErrInvalid)
					s.list[waves-1].Cells[0] = 1
				}
				if weights > 0 {
					s.weights[weights-1] = -inf
					wantSourceErrors(t, s, impl.ErrInvalid)
				}
			}
		}
		one := []impl.Wave{flat(side, 1)}
		for _, s := range []light{{nil, nil}, {nil, []float32{}}, {[]impl.Wave{}, nil}, {one, nil}, {nil, []float32{1}}} {
			wantSourceErrors(t, s, impl.ErrRange)
		}
		wantSourceErrors(t, light{nil, []float32{nan}}, impl.ErrInvalid)
		wantSourceErrors(t, light{[]impl.Wave{{}}, nil}, impl.ErrInvalid)
	}
}

// Cells that are none are ErrRange, whatever the levels are; the last one is a cell.
func TestCellsOfSources(t *testing.T) {
	for _, side := range sides {
		last := side*side - 1
		s := goodLight(side)
		for _, p := range []int64{0, last / 2, last} {
			for _, q := range []int64{0, last / 2, last} {
				wantCoherence(t, s.light, p, q)
			}
		}
		for _, k := range append(outside(0, last), math.MinInt64, -1, last+1, math.MaxInt64, 64, 1<<32) {
			for _, z := range []complex64{0, 1, most} {
				for _, cells := range [][2]int64{{k, 0}, {0, k}, {last, k}, {k, last}, {k, k}} {
					bad := light{[]impl.Wave{flat(side, z)}, []float32{1}}
					wantMutual(t, bad, cells[0], cells[1], 0, impl.ErrRange)
					wantDegree(t, bad, cells[0], cells[1], 0, impl.ErrRange)
					wantVisibility(t, bad, cells[0], cells[1], 0, impl.ErrRange)
					wantFringesAt(t, bad, cells[0], cells[1], nil, impl.ErrRange)
				}
			}
		}
	}
}
