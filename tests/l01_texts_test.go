package tests

import (
	"math"
	"strconv"
	"strings"
	"testing"

	"loop.example/g01225/impl"
)

// texts are waves of the side 1 and their texts.
var texts = []struct {
	z    complex64
	text string
}{
	{0, "1:0,0"},
	{complex(1, -2), "1:3f800000,-40000000"},
	{complex(least, -least), "1:1,-1"},
	{complex(-15*least, 16*least), "1:-f,10"},
	{complex(0x1p-126, -0x1p-126+least), "1:800000,-7fffff"},
	{complex(most, -most), "1:7f7fffff,-7f7fffff"},
	{complex(0, 0x1.579bdep-18), "1:0,36abcdef"},
}

func TestTextsOfCells(t *testing.T) {
	for _, c := range texts {
		if text, code := impl.WaveText(waveOf(1, c.z)); text != c.text || code != impl.ErrNone {
			t.Errorf("WaveText of %v = %q, %d; want %q", c.z, text, code, c.text)
		}
		w, code := impl.ParseWave(c.text)
		wantWave(t, "ParseWave of "+c.text, w, code, waveOf(1, c.z), impl.ErrNone)
	}
	negative := float32(math.Copysign(0, -1))
	if text, code := impl.WaveText(waveOf(1, complex(negative, negative))); text != "1:0,0" || code != impl.ErrNone {
		t.Errorf("WaveText of negative zeros = %q, %d", text, code)
	}
}

func TestTextsOfWaves(t *testing.T) {
	two := waveOf(2, 1, 1i, complex(-1, 0), complex(0, -1))
	for text, want := range map[string]impl.Wave{
		"2:3f800000,0 0,3f800000 -3f800000,0 0,-3f800000": two,
		"4:0,0" + strings.Repeat(" 0,0", 15):              {Side: 4},
		"8:1,-2" + strings.Repeat(" 1,-2", 63):            flat(8, complex(least, -2*least)),
	} {
		if got, code := impl.WaveText(want); got != text || code != impl.ErrNone {
			t.Errorf("WaveText(%v) = %q, %d; want %q", want, got, code, text)
		}
		w, code := impl.ParseWave(text)
		wantWave(t, "ParseWave", w, code, want, impl.ErrNone)
	}
	for _, w := range noWaves() {
		if text, code := impl.WaveText(w); text != "" || code != impl.ErrInvalid {
			t.Errorf("WaveText(%v) = %q, %d", w, text, code)
		}
	}
}

// Promise 1: waves come back from their texts.
func TestWavesComeBackFromTexts(t *testing.T) {
	n := numbers{20}
	for round := range 400 {
		w := n.wave(sides[round%4], -149, 127)
		text, code := impl.WaveText(w)
		if code != impl.ErrNone {
			t.Fatalf("WaveText: code %d", code)
		}
		back, code := impl.ParseWave(text)
		wantWave(t, "ParseWave of "+text, back, code, w, impl.ErrNone)
	}
}

// Places are in the order of the numbers, without gaps.
func TestPlacesOfNeighbours(t *testing.T) {
	for _, start := range []float32{-1, -least, 0, 0x1p-126, 1, 0x1.fffffep5} {
		before, after := placeIn(t, start), placeIn(t, math.Nextafter32(start, inf))
		if after != before+1 {
			t.Errorf("the places %d and %d of %v and the next number", before, after, start)
		}
	}
}

// placeIn returns the place that the text of x tells.
func placeIn(t *testing.T, x float32) int64 {
	text, _ := impl.WaveText(waveOf(1, complex(x, 0)))
	digits := strings.TrimSuffix(strings.TrimPrefix(text, "1:"), ",0")
	place, err := strconv.ParseInt(digits, 16, 64)
	if err != nil {
		t.Fatalf("the text %q of %v", text, x)
	}
	return place
}

func TestNoTexts(t *testing.T) {
	one := "3f800000,0"
	four := strings.Join([]string{one, one, one, one}, " ")
	for _, text := range []string{
		"", ":", "1", "1:", "1: ", ":0,0", "1:0", "1:,", "1:0,", "1:,0", "1:-,0", "1:0,0,0", "1:0;0", "0,0",
		"0:", "0:0,0", "3:" + strings.TrimSpace(strings.Repeat(one+" ", 9)), "-1:0,0", "+1:0,0", "01:0,0", "1 :0,0", " 1:0,0",
		"16:" + strings.TrimSpace(strings.Repeat("0,0 ", 256)), "99999999999999999999:0,0", "4294967297:0,0", "x:0,0", "1::0,0", "1:0,0:",
		"1:0,0 ", "1: 0,0", "1:0 ,0", "1:0, 0", "1:0,0\n", "\n1:0,0", "1:0,0\t", "1:0,0\x00",
		"1:00,0", "1:0,00", "1:01,0", "1:0,-01", "1:-0,0", "1:0,-0", "1:+1,0", "1:0,+1", "1:--1,0", "1:0x1,0", "1:1_0,0",
		"1:3F800000,0", "1:0,A", "1:-Ff,0", "1:g,0", "1:0,1.5", "1:0,\u0661",
		"1:7f800000,0", "1:0,7f800000", "1:-7f800000,0", "1:0,-7f800000", "1:7fc00000,0", "1:80000000,0", "1:ffffffff,0",
		"1:100000000,0", "1:0,-13f800000", "1:ffffffffffffffff,0", "1:10000000000000000,0", "1:0,-8000000000000000",
		"1:" + four, "2:" + one, "2:" + four + " ", "2: " + four, "2:" + four + " " + one, "2:" + strings.Replace(four, " ", "  ", 1),
		"2:" + strings.Replace(four, " ", "", 1), "2:" + strings.Replace(four, " ", "\n", 1), "4:" + four, "2:" + one + " " + one + " " + one,
		"8:" + strings.Repeat("0,0 ", 62) + "0,0", "8:" + strings.Repeat("0,0 ", 64) + "0,0", "8:" + strings.Repeat("0,0 ", 63) + "0",
		strings.Repeat(" ", 100000), "1:" + strings.Repeat("0", 100000) + ",0",
	} {
		w, code := impl.ParseWave(text)
		wantNoWave(t, "ParseWave of "+strconv.Quote(text[:min(len(text), 60)]), w, code, impl.ErrSyntax)
	}
}
