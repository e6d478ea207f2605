package tests

import (
	"fmt"
	"slices"
	"strings"
	"testing"

	"loop.example/g01225/impl"
)

// A scanCall has arguments of the functions of scans; those of one place use the first one.
type scanCall struct {
	o, p     impl.Wave
	places   []impl.Place
	pictures []impl.Picture
	h        float32
	passes   int64
}

// goodCall returns arguments with which no function has an error.
func goodCall(n, m int64) scanCall {
	places := []impl.Place{{Row: n - 1}, {}, {Column: n - 1}}
	return scanCall{flat(n, 1), waveOf(m, 2), places, slices.Repeat([]impl.Picture{even(m, 16)}, 3), 0.5, 2}
}

// A scanFunction is called with some of the arguments, which are named - at, at1 and at2 are places
// and b, b1 and b2 pictures -, and reports whether its result is the zero value.
type scanFunction struct {
	uses string
	call func(s scanCall) (bool, int64)
}

// scanFunctions returns all functions of scans that take an object.
func scanFunctions() map[string]scanFunction {
	const lists = "at1 at2 b1 b2 long count"
	wave := func(w impl.Wave, code int64) (bool, int64) { return w == impl.Wave{}, code }
	return map[string]scanFunction{
		"PatchOf": {"o at", func(s scanCall) (bool, int64) {
			return wave(impl.PatchOf(s.o, 1, s.places[0]))
		}},
		"ExitWave": {"o p limit at", func(s scanCall) (bool, int64) {
			return wave(impl.ExitWave(s.o, s.p, s.places[0]))
		}},
		"PictureAt": {"o p limit at", func(s scanCall) (bool, int64) {
			picture, code := impl.PictureAt(s.o, s.p, s.places[0])
			return picture == impl.Picture{}, code
		}},
		"ScanPictures": {"o p limit at at1 at2 long", func(s scanCall) (bool, int64) {
			list, code := impl.ScanPictures(s.o, s.p, s.places)
			return len(list) == 0, code
		}},
		"MendObject": {"o p limit at b h", func(s scanCall) (bool, int64) {
			return wave(impl.MendObject(s.o, s.p, s.places[0], s.pictures[0], s.h))
		}},
		"MendProbe": {"o p limit at b h", func(s scanCall) (bool, int64) {
			return wave(impl.MendProbe(s.o, s.p, s.places[0], s.pictures[0], s.h))
		}},
		"RunPasses": {"o p limit at b h passes " + lists, func(s scanCall) (bool, int64) {
			return wave(impl.RunPasses(s.o, s.p, s.places, s.pictures, s.h, s.passes))
		}},
		"ErrorOfScan": {"o p limit at b " + lists, func(s scanCall) (bool, int64) {
			miss, code := impl.ErrorOfScan(s.o, s.p, s.places, s.pictures)
			return miss == 0, code
		}},
	}
}

// A scanFault is something about one argument, named as above, that leads to a code.
type scanFault struct {
	about string
	code  int64
	apply func(s *scanCall)
}

// waveFaults returns faults of objects of the side n and of probes.
func waveFaults(n int64) []scanFault {
	faults := []scanFault{{"limit", impl.ErrLimit, func(s *scanCall) {
		if impl.IsWave(s.o) {
			s.o = flat(n, most)
		}
	}}}
	for _, bad := range noWaves() {
		faults = append(faults,
			scanFault{"o", impl.ErrInvalid, func(s *scanCall) { s.o = bad }},
			scanFault{"p", impl.ErrInvalid, func(s *scanCall) { s.p = bad }},
		)
	}
	for side := 2 * n; side <= 8; side *= 2 {
		faults = append(faults, scanFault{"p", impl.ErrRange, func(s *scanCall) { s.p = waveOf(side, 2) }})
	}
	return faults
}

// pictureFaults returns faults of pictures for a probe of the side m.
func pictureFaults(m int64) (faults []scanFault) {
	for place, about := range []string{"b", "b1", "b2"} {
		for _, bad := range noPictures() {
			faults = append(faults, scanFault{about, impl.ErrInvalid, func(s *scanCall) { s.pictures[place] = bad }})
		}
		for _, side := range sides {
			if side != m {
				faults = append(faults, scanFault{about, impl.ErrRange, func(s *scanCall) { s.pictures[place] = even(side, 1) }})
			}
		}
	}
	return faults
}

// placeFaults returns faults of places of an object of the side n.
func placeFaults(n int64) (faults []scanFault) {
	for _, k := range outside(0, n-1) {
		for place, about := range []string{"at", "at1", "at2"} {
			faults = append(faults,
				scanFault{about, impl.ErrRange, func(s *scanCall) { s.places[place].Row = k }},
				scanFault{about, impl.ErrRange, func(s *scanCall) { s.places[place].Column = k }},
			)
		}
	}
	return faults
}

// listFaults returns faults of lists: those that are too long, and such of different lengths.
func listFaults(m int64) []scanFault {
	return []scanFault{
		{"long", impl.ErrRange, func(s *scanCall) {
			s.places = append(s.places, make([]impl.Place, 18)...)
			s.pictures = append(s.pictures, slices.Repeat([]impl.Picture{even(m, 4)}, 18)...)
		}},
		{"count", impl.ErrRange, func(s *scanCall) { s.places = append(s.places, impl.Place{}) }},
		{"count", impl.ErrRange, func(s *scanCall) { s.pictures = append(s.pictures, even(m, 4)) }},
	}
}

// numberFaults returns faults of h and of the number of passes.
func numberFaults() (faults []scanFault) {
	for _, h := range []float32{nan, -nan, inf, -inf} {
		faults = append(faults, scanFault{"h", impl.ErrInvalid, func(s *scanCall) { s.h = h }})
	}
	for _, h := range []float32{-least, -1, -most, 1 + 0x1p-23, 2, most} {
		faults = append(faults, scanFault{"h", impl.ErrRange, func(s *scanCall) { s.h = h }})
	}
	for _, k := range append(outside(0, 8), 1<<32, 1<<32+1) {
		faults = append(faults, scanFault{"passes", impl.ErrRange, func(s *scanCall) { s.passes = k }})
	}
	return faults
}

// scanFaults returns all faults for an object of the side n and a probe of the side m.
func scanFaults(n, m int64) []scanFault {
	return slices.Concat(waveFaults(n), pictureFaults(m), placeFaults(n), listFaults(m), numberFaults())
}

// wantScanCodes calls all functions with faults, and wants of each one no result and the least code
// of those that are about its arguments, and ErrNone without any.
func wantScanCodes(t *testing.T, n, m int64, faults ...scanFault) {
	t.Helper()
	for name, f := range scanFunctions() {
		s, want, text := goodCall(n, m), int64(impl.ErrNone), ""
		for _, fault := range faults {
			fault.apply(&s)
			text += fmt.Sprintf(" %s (%d)", fault.about, fault.code)
			if slices.Contains(strings.Fields(f.uses), fault.about) && (want == impl.ErrNone || fault.code < want) {
				want = fault.code
			}
		}
		isZero, code := f.call(s)
		if code != want || want != impl.ErrNone && !isZero {
			t.Errorf("%s of the sides %d and %d with faults%s: %t, %d; want %d", name, n, m, text, isZero, code, want)
		}
	}
}

func TestErrorsOfScans(t *testing.T) {
	forSides(func(n, m int64) {
		wantScanCodes(t, n, m)
		for _, fault := range scanFaults(n, m) {
			wantScanCodes(t, n, m, fault)
		}
	})
}

// Of two faults the one with the lesser code is met first, whatever they are about, but functions do
// not care about arguments that they do not have.
func TestOrderOfErrorsOfScans(t *testing.T) {
	forSides(func(n, m int64) {
		var faults []scanFault
		counts := map[string]int{}
		for _, fault := range scanFaults(n, m) {
			kind := fmt.Sprint(fault.about, fault.code)
			if counts[kind]++; counts[kind] <= 2 {
				faults = append(faults, fault)
			}
		}
		for _, first := range faults {
			for _, second := range faults {
				if first.about != second.about {
					wantScanCodes(t, n, m, first, second)
				}
			}
		}
	})
}

func TestSidesOfPatches(t *testing.T) {
	for _, n := range sides {
		for _, m := range append(noSides, sides...) {
			for _, o := range []impl.Wave{flat(n, 1), flat(n, most)} {
				if slices.Contains(sides, m) && m <= n {
					wantPatch(t, o, m, impl.Place{}, flat(m, o.Cells[0]), impl.ErrNone)
				} else {
					wantPatch(t, o, m, impl.Place{}, impl.Wave{}, impl.ErrRange)
				}
			}
			for _, bad := range noWaves() {
				wantPatch(t, bad, m, impl.Place{}, impl.Wave{}, impl.ErrInvalid)
				wantPatch(t, bad, m, impl.Place{Row: -1}, impl.Wave{}, impl.ErrInvalid)
			}
		}
	}
}

// A probe that is greater than the object is none, also with no places and no passes.
func TestGreatProbes(t *testing.T) {
	for _, n := range sides {
		for _, m := range sides {
			o, p, at := flat(n, 1), flat(m, 1), []impl.Place{{}}
			for _, count := range []int{0, 1, 20, 21} {
				places, pictures := slices.Repeat(at, count), slices.Repeat([]impl.Picture{even(m, 1)}, count)
				want := int64(impl.ErrNone)
				if m > n || count > 20 {
					want = impl.ErrRange
				}
				_, code := impl.ScanPictures(o, p, places)
				_, missCode := impl.ErrorOfScan(o, p, places, pictures)
				_, passCode := impl.RunPasses(o, p, places, pictures, 1, 0)
				if code != want || missCode != want || passCode != want {
					t.Errorf("the sides %d and %d with %d places: %d, %d, %d", n, m, count, code, missCode, passCode)
				}
				// A picture that is none comes before this, also where there are too many.
				for place := range count {
					list := slices.Clone(pictures)
					list[place] = impl.Picture{}
					wantMissOfScan(t, o, p, places, list, 0, impl.ErrInvalid)
					wantPasses(t, o, p, places, list, 1, 0, o, impl.ErrInvalid)
					list[place] = even(8/m, 1)
					wantMissOfScan(t, o, p, places, list, 0, impl.ErrRange)
					wantPasses(t, o, p, places, list, 1, 0, o, impl.ErrRange)
				}
			}
		}
	}
}

// There have to be as many pictures as places, also for no places and no passes.
func TestCountsOfPictures(t *testing.T) {
	forSides(func(n, m int64) {
		o, p := flat(n, 1), waveOf(m, 2)
		for _, count := range []int{0, 1, 2, 19, 20, 21} {
			for _, others := range []int{0, 1, 2, 19, 20, 21} {
				places, pictures := make([]impl.Place, count), slices.Repeat([]impl.Picture{even(m, 4)}, others)
				code := int64(impl.ErrNone)
				if count != others || count > 20 {
					code = impl.ErrRange
				}
				wantMissOfScan(t, o, p, places, pictures, 0, code)
				for _, passes := range []int64{0, 1, 8} {
					wantPasses(t, o, p, places, pictures, 1, passes, o, code)
				}
			}
		}
		wantMissOfScan(t, o, p, nil, []impl.Picture{even(m, 4)}, 0, impl.ErrRange)
		wantMissOfScan(t, o, p, []impl.Place{{}}, nil, 0, impl.ErrRange)
		wantPasses(t, o, p, nil, []impl.Picture{even(m, 4)}, 1, 0, o, impl.ErrRange)
		wantPasses(t, o, p, []impl.Place{{}}, nil, 1, 0, o, impl.ErrRange)
		wantPasses(t, o, p, nil, []impl.Picture{}, 1, 0, o, impl.ErrNone)
		wantPasses(t, o, p, []impl.Place{}, nil, 1, 8, o, impl.ErrNone)
	})
}

// The ends of the ranges of h and of the number of passes are in these.
func TestEndsOfRangesOfMending(t *testing.T) {
	at := impl.Place{}
	for _, h := range []float32{0, zeroBelow, least, 0x1p-126, 0.5, 1 - 0x1p-24, 1} {
		want := waveOf(1, complex(exactSum(1, h), 0))
		wantObject(t, waveOf(1, 1), waveOf(1, 1), at, pictureOf(1, 4), h, want, impl.ErrNone)
		wantProbe(t, waveOf(1, 1), waveOf(1, 1), at, pictureOf(1, 4), h, want, impl.ErrNone)
		wantPasses(t, waveOf(1, 1), waveOf(1, 1), []impl.Place{at}, []impl.Picture{pictureOf(1, 4)}, h, 1, want, impl.ErrNone)
	}
	for passes, want := range []complex64{1, 1.5, 1.75, 1.875, 1.9375, 1.96875, 1.984375, 1.9921875, 1.99609375} {
		wantPasses(t, waveOf(1, 1), waveOf(1, 1), []impl.Place{at}, []impl.Picture{pictureOf(1, 4)}, 0.5, int64(passes), waveOf(1, want), impl.ErrNone)
	}
}
