package tests

import (
	"fmt"
	"math"
	"strings"
	"testing"

	"loop.example/g01225/impl"
)

// The functions of this file tell what the rows of the table of chapter 12 do by the functions that
// they name. Texts of outputs are written here anew.

// placeText returns the place of a number in hexadecimal.
func placeText(x float32) string {
	digits := fmt.Sprintf("%x", math.Float32bits(abs(x)))
	if x < 0 {
		return "-" + digits
	}
	return digits
}

// cellText returns the text of a complex number.
func cellText(z complex64) string { return placeText(real(z)) + "," + placeText(imag(z)) }

// textOf returns the text of a wave.
func textOf(w impl.Wave) string {
	var cells []string
	for _, z := range w.Cells[:w.Side*w.Side] {
		cells = append(cells, cellText(z))
	}
	return fmt.Sprintf("%d:%s", w.Side, strings.Join(cells, " "))
}

// levelsText returns the text of a picture.
func levelsText(p impl.Picture) string {
	w := impl.Wave{Side: p.Side}
	for i, level := range p.Levels {
		w.Cells[i] = complex(level, 0)
	}
	return textOf(w)
}

// listText returns the text of a list of whole numbers.
func listText(list []int64) string { return strings.Trim(fmt.Sprint(list), "[]") }

// An outcome is what a line leads to if a function returns ErrNone, with the code that it returns.
type outcome struct {
	bench  impl.Bench
	output string
	code   int64
}

// A rowFunction does what a row of the table says.
type rowFunction = func(b impl.Bench, a [4]int64) outcome

func toFirst(f func(b impl.Bench, a [4]int64) (impl.Wave, int64)) rowFunction {
	return func(b impl.Bench, a [4]int64) outcome {
		w, code := f(b, a)
		return outcome{impl.Bench{First: w, Second: b.Second, Picture: b.Picture}, textOf(w), code}
	}
}

func toSecond(f func(a [4]int64) (impl.Wave, int64)) rowFunction {
	return func(b impl.Bench, a [4]int64) outcome {
		w, code := f(a)
		return outcome{impl.Bench{First: b.First, Second: w, Picture: b.Picture}, textOf(w), code}
	}
}

func toPicture(f func(b impl.Bench) (impl.Picture, int64)) rowFunction {
	return func(b impl.Bench, a [4]int64) outcome {
		p, code := f(b)
		return outcome{impl.Bench{First: b.First, Second: b.Second, Picture: p}, levelsText(p), code}
	}
}

func ofFirst(f func(w impl.Wave) (impl.Wave, int64)) rowFunction {
	return toFirst(func(b impl.Bench, a [4]int64) (impl.Wave, int64) { return f(b.First) })
}

func ofBoth(f func(w, v impl.Wave) (impl.Wave, int64)) rowFunction {
	return toFirst(func(b impl.Bench, a [4]int64) (impl.Wave, int64) { return f(b.First, b.Second) })
}

func ofTwoNumbers(f func(w impl.Wave, k, l int64) (impl.Wave, int64)) rowFunction {
	return toFirst(func(b impl.Bench, a [4]int64) (impl.Wave, int64) { return f(b.First, a[0], a[1]) })
}

func travelOf(sign int64) rowFunction {
	return toFirst(func(b impl.Bench, a [4]int64) (impl.Wave, int64) {
		return impl.TravelWave(b.First, sign*a[0])
	})
}

func showing(f func(b impl.Bench) string) rowFunction {
	return func(b impl.Bench, a [4]int64) outcome { return outcome{b, f(b), impl.ErrNone} }
}

func telling(f func(b impl.Bench, a [4]int64) (float32, int64)) rowFunction {
	return func(b impl.Bench, a [4]int64) outcome {
		x, code := f(b, a)
		return outcome{b, cellText(complex(x, 0)), code}
	}
}

func tellingFirst(f func(w impl.Wave) (float32, int64)) rowFunction {
	return telling(func(b impl.Bench, a [4]int64) (float32, int64) { return f(b.First) })
}

func swapped(b impl.Bench, a [4]int64) outcome {
	after := impl.Bench{First: b.Second, Second: b.First, Picture: b.Picture}
	return outcome{after, textOf(b.Second), impl.ErrNone}
}

func innerOf(b impl.Bench, a [4]int64) outcome {
	z, code := impl.InnerOfWaves(b.First, b.Second)
	return outcome{b, cellText(z), code}
}

func openOf(b impl.Bench, a [4]int64) outcome {
	list, code := impl.OpenCells(b.Second)
	return outcome{b, listText(list), code}
}

func resetTo(b impl.Bench, a [4]int64) outcome {
	ones := waveOf(2, 1, 1, 1, 1)
	return outcome{impl.Bench{First: ones, Second: ones, Picture: pictureOf(2)}, "ok", impl.ErrNone}
}

// A row is one of the table, for one command: the words of a line that does something on the bench
// of goodBench, what is done, and the codes other than ErrNone that can come.
type row struct {
	name    string
	numbers []int64
	do      rowFunction
	codes   []int64
}

// line returns a line of the row with its own numbers.
func (r row) line() string { return r.lineWith(r.numbers) }

// lineWith returns a line of the row with numbers.
func (r row) lineWith(numbers []int64) string {
	words := r.name
	for _, k := range numbers {
		words += fmt.Sprintf(" %d", k)
	}
	return words
}

// four returns numbers with zeros behind them.
func four(numbers []int64) (a [4]int64) {
	copy(a[:], numbers)
	return a
}

// The codes that the functions of a row can return.
var (
	noCodes         []int64
	invalid         = []int64{impl.ErrInvalid}
	invalidAndRange = []int64{impl.ErrInvalid, impl.ErrRange}
	onlyRange       = []int64{impl.ErrRange}
	onlyLimit       = []int64{impl.ErrLimit}
	rangeAndLimit   = []int64{impl.ErrRange, impl.ErrLimit}
	limitAndState   = []int64{impl.ErrLimit, impl.ErrState}
)

// rows returns the rows of the table but for those with TEXT.
func rows() []row { return append(rowsOfFirst(), otherRows()...) }

// rowsOfFirst returns the rows by which W becomes another wave.
func rowsOfFirst() []row {
	return []row{
		{"swap", nil, swapped, noCodes},
		{"plane", []int64{2, 1, 0}, toFirst(func(b impl.Bench, a [4]int64) (impl.Wave, int64) {
			return impl.PlaneWave(a[0], a[1], a[2])
		}), onlyRange},
		{"add", nil, ofBoth(impl.AddWaves), rangeAndLimit},
		{"times", nil, ofBoth(impl.MultiplyWaves), rangeAndLimit},
		{"conjugate", nil, ofFirst(impl.ConjugateWave), noCodes},
		{"shift", []int64{1, 0}, ofTwoNumbers(impl.ShiftWave), onlyRange},
		{"transform", nil, ofFirst(impl.TransformWave), onlyLimit},
		{"back", nil, ofFirst(impl.BackTransform), onlyLimit},
		{"flip", nil, ofFirst(impl.FlipWave), noCodes},
		{"centre", nil, ofFirst(impl.CentreWave), noCodes},
		{"transpose", nil, ofFirst(impl.TransposeWave), noCodes},
		{"convolve", nil, ofBoth(impl.ConvolveWaves), rangeAndLimit},
		{"correlate", nil, ofBoth(impl.CorrelateWaves), rangeAndLimit},
		{"band", []int64{0, 1}, ofTwoNumbers(impl.BandOfWave), rangeAndLimit},
		{"behind", nil, ofBoth(impl.BehindMask), invalidAndRange},
		{"travel", []int64{1}, travelOf(1), rangeAndLimit},
		{"retreat", []int64{1}, travelOf(-1), rangeAndLimit},
		{"tilt", []int64{1, 1}, ofTwoNumbers(impl.TiltWave), rangeAndLimit},
		{"look", nil, toFirst(func(b impl.Bench, a [4]int64) (impl.Wave, int64) {
			return impl.LookAt(b.Picture, b.Second)
		}), rangeAndLimit},
		{"start", []int64{1}, toFirst(func(b impl.Bench, a [4]int64) (impl.Wave, int64) {
			return impl.StartWave(b.Picture, a[0])
		}), onlyRange},
		{"get", nil, toFirst(func(b impl.Bench, a [4]int64) (impl.Wave, int64) {
			return impl.GetAmplitudes(b.First, b.Picture)
		}), rangeAndLimit},
	}
}

// otherRows returns the rows by which W stays, and reset.
func otherRows() []row {
	return []row{
		{"slit", []int64{2, 1, 1}, toSecond(func(a [4]int64) (impl.Wave, int64) {
			return impl.SlitMask(a[0], a[1], a[2])
		}), onlyRange},
		{"grating", []int64{2, 2, 1}, toSecond(func(a [4]int64) (impl.Wave, int64) {
			return impl.GratingMask(a[0], a[1], a[2])
		}), onlyRange},
		{"disc", []int64{2, 1, 1, 2}, toSecond(func(a [4]int64) (impl.Wave, int64) {
			return impl.DiscMask(a[0], a[1], a[2], a[3])
		}), onlyRange},
		{"lens", []int64{2, 1, 0, 1}, toSecond(func(a [4]int64) (impl.Wave, int64) {
			return impl.LensWave(a[0], a[1], a[2], a[3])
		}), onlyRange},
		{"code", []int64{2, 1}, toSecond(func(a [4]int64) (impl.Wave, int64) {
			return impl.CodeWave(a[0], a[1])
		}), onlyRange},
		{"record", nil, toPicture(func(b impl.Bench) (impl.Picture, int64) {
			return impl.RecordHologram(b.First, b.Second)
		}), rangeAndLimit},
		{"see", nil, toPicture(func(b impl.Bench) (impl.Picture, int64) { return impl.IntensityOf(b.First) }), onlyLimit},
		{"show", nil, showing(func(b impl.Bench) string { return textOf(b.First) }), noCodes},
		{"other", nil, showing(func(b impl.Bench) string { return textOf(b.Second) }), noCodes},
		{"picture", nil, showing(func(b impl.Bench) string { return levelsText(b.Picture) }), noCodes},
		{"energy", nil, tellingFirst(impl.EnergyOf), onlyLimit},
		{"level", nil, tellingFirst(impl.LevelOf), onlyLimit},
		{"inner", nil, innerOf, rangeAndLimit},
		{"trip", nil, tellingFirst(impl.TripError), onlyLimit},
		{"contrast", nil, telling(func(b impl.Bench, a [4]int64) (float32, int64) {
			return impl.ContrastOf(b.Picture)
		}), limitAndState},
		{"open", nil, openOf, invalid},
		{"sum", []int64{1}, telling(func(b impl.Bench, a [4]int64) (float32, int64) {
			return impl.SumOfPicture(b.Picture, a[0])
		}), rangeAndLimit},
		{"reset", nil, resetTo, noCodes},
	}
}

// goodBench returns a bench on which the lines of all rows do something.
func goodBench() impl.Bench {
	return impl.Bench{First: waveOf(2, 1, 2i, -3, 4), Second: waveOf(2, 1, 0, 1, 1), Picture: pictureOf(2, 1, 4, 0, 9)}
}

// wantRunLine wants a bench and an output of a line on a bench, at two calls.
func wantRunLine(t *testing.T, b impl.Bench, line string, want impl.Bench, output string) {
	t.Helper()
	for range 2 {
		after, got := impl.RunLine(b, line)
		if after != want || got != output {
			t.Errorf("RunLine(%v, %q) = %v, %q; want %v, %q", b, line, after, got, want, output)
		}
	}
}

// wantErrorOf wants the output error of a line on a bench, and that nothing is changed.
func wantErrorOf(t *testing.T, b impl.Bench, line string) {
	t.Helper()
	wantRunLine(t, b, line, b, "error")
}

// wantRowOf wants of a line what its row does on a bench with numbers, and returns the code of the
// function.
func (r row) wantRowOf(t *testing.T, b impl.Bench, numbers []int64) int64 {
	t.Helper()
	o := r.do(b, four(numbers))
	if line := r.lineWith(numbers); o.code == impl.ErrNone {
		wantRunLine(t, b, line, o.bench, o.output)
	} else {
		wantErrorOf(t, b, line)
	}
	return o.code
}

// The rows of these tests are all of the table, with as many numbers as it has.
func TestRowsAreThoseOfTheTable(t *testing.T) {
	table := "swap,plane N A B,add,times,conjugate,shift A B,transform,back,flip,centre,transpose,convolve,correlate,band A B," +
		"slit N X Y,grating N X Y,disc N Y X R,lens N Y X K,behind,travel D,retreat D,tilt A B,record,look,see,start K,get," +
		"code N K,show,other,picture,energy,level,inner,trip,contrast,open,sum K,reset"
	counts := map[string]int{}
	for _, text := range strings.Split(table, ",") {
		words := strings.Fields(text)
		counts[words[0]] = len(words) - 1
	}
	for _, r := range rows() {
		if count, isKnown := counts[r.name]; !isKnown || count != len(r.numbers) {
			t.Errorf("the row %s has %d numbers", r.name, len(r.numbers))
		}
		delete(counts, r.name)
	}
	if len(counts) > 0 {
		t.Errorf("there are no rows for %v", counts)
	}
}
