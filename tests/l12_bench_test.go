package tests

import (
	"testing"

	"loop.example/g01225/impl"
)

func TestConstantsOfConsole(t *testing.T) {
	if impl.MaxConsole != 9000 || impl.MaxLines != 40 {
		t.Errorf("MaxConsole = %d, MaxLines = %d", impl.MaxConsole, impl.MaxLines)
	}
}

// newBench is the new bench, written anew.
var newBench = impl.Bench{First: waveOf(2, 1, 1, 1, 1), Second: waveOf(2, 1, 1, 1, 1), Picture: pictureOf(2)}

func TestNewBench(t *testing.T) {
	for range 2 {
		if b := impl.NewBench(); b != newBench || !impl.IsBench(b) {
			t.Errorf("NewBench() = %v", b)
		}
	}
	first, code := impl.FlatWave(2, 1)
	wantWave(t, "FlatWave", first, code, impl.NewBench().First, impl.ErrNone)
}

// The example of the document.
func TestEnergyOfNewBench(t *testing.T) {
	wantRunLine(t, impl.NewBench(), "energy", newBench, "40800000,0")
}

// Lines on the new bench, calculated by hand.
func TestLinesOnNewBench(t *testing.T) {
	ones := "2:3f800000,0 3f800000,0 3f800000,0 3f800000,0"
	for line, output := range map[string]string{
		"show": ones, "other": ones, "picture": "2:0,0 0,0 0,0 0,0", "level": "3f800000,0", "inner": "40800000,0", "trip": "0,0",
		"open": "2 2", "sum 0": "0,0", "sum 3": "0,0", "swap": ones, "times": ones, "behind": ones, "travel 7": ones, "retreat 64": ones,
		"centre": ones, "band 0 0": ones, "contrast": "error", "reset": "ok",
	} {
		wantRunLine(t, impl.NewBench(), line, newBench, output)
	}
	wantRunLine(t, impl.NewBench(), "get", withParts(newBench, impl.Bench{First: flat(2, 0)}), "2:0,0 0,0 0,0 0,0")
	wantRunLine(t, impl.NewBench(), "look", withParts(newBench, impl.Bench{First: flat(2, 0)}), "2:0,0 0,0 0,0 0,0")
	wantRunLine(t, impl.NewBench(), "start 63", withParts(newBench, impl.Bench{First: flat(2, 0)}), "2:0,0 0,0 0,0 0,0")
	wantRunLine(t, impl.NewBench(), "see", withParts(newBench, impl.Bench{Picture: even(2, 1)}), ones)
}

// noBenches returns values that are not benches: something that is not a wave at either place, or not a
// picture, beside good parts of all sides and beside others that are none.
func noBenches() (list []impl.Bench) {
	for _, side := range sides {
		good := impl.Bench{First: flat(side, 1), Second: flat(side, 2), Picture: even(side, 3)}
		for _, bad := range noWaves() {
			b := good
			b.First = bad
			list = append(list, b)
			b.Picture = impl.Picture{}
			list = append(list, b)
			b = good
			b.Second = bad
			list = append(list, b)
			b.First = bad
			list = append(list, b)
		}
		for _, bad := range noPictures() {
			b := good
			b.Picture = bad
			list = append(list, b)
		}
	}
	return append(list, impl.Bench{})
}

func TestIsBench(t *testing.T) {
	n := numbers{720}
	forBenches(&n, 6, func(b impl.Bench) {
		for range 2 {
			if !impl.IsBench(b) {
				t.Errorf("%v is no bench", b)
			}
		}
	})
	for _, b := range []impl.Bench{
		{First: flat(1, 0), Second: flat(8, most), Picture: even(4, least)},
		{First: flat(8, complex(-most, least)), Second: flat(1, minusZero), Picture: even(2, zeroBelow)},
		{First: signed(flat(2, 0)), Second: signed(flat(4, 1)), Picture: signedPicture(pictureOf(1, most))},
	} {
		if !impl.IsBench(b) {
			t.Errorf("%v is no bench", b)
		}
	}
	for _, b := range noBenches() {
		if impl.IsBench(b) {
			t.Errorf("%v is a bench", b)
		}
	}
}

// On what is not a bench, no line does anything, not even reset or a wrong one.
func TestLinesOnNoBenches(t *testing.T) {
	lines := append(goodLines(), "", " ", "fly", "first", "plane 2 1", "sum 99")
	for i, b := range noBenches() {
		for j, line := range lines {
			if (i+j)%5 != 0 && line != "reset" {
				continue
			}
			if after, output := impl.RunLine(b, line); after != (impl.Bench{}) || output != "" {
				t.Errorf("RunLine of %q on %v: %v, %q", line, b, after, output)
			}
		}
	}
}
