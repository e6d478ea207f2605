package tests

import (
	"strings"
	"testing"

	"loop.example/g01225/impl"
)

// wantConsole wants outputs of the console for a text, and the bench behind it.
func wantConsole(t *testing.T, text string, outputs string, want impl.Bench) {
	t.Helper()
	for range 2 {
		if got := impl.Console(text); got != outputs {
			t.Errorf("Console(%.200q) = %.200q; want %.200q", text, got, outputs)
		}
		if b, ok := impl.BenchAfter(text); b != want || !ok {
			t.Errorf("BenchAfter(%.200q) = %v, %t; want %v", text, b, ok, want)
		}
	}
}

// wantRefused wants that a text is refused, and that no line of it is executed.
func wantRefused(t *testing.T, text string) {
	t.Helper()
	for range 2 {
		if got := impl.Console(text); got != "" {
			t.Errorf("Console of a text of %d bytes = %.200q", len(text), got)
		}
		if b, ok := impl.BenchAfter(text); b != (impl.Bench{}) || ok {
			t.Errorf("BenchAfter of a text of %d bytes = %v, %t", len(text), b, ok)
		}
	}
}

// minusOnes is the new bench with another first wave, and minusText is its text.
var minusOnes = withParts(newBench, impl.Bench{First: flat(2, -1)})

const (
	minusLine = "first 2:-3f800000,0 -3f800000,0 -3f800000,0 -3f800000,0"
	minusText = "2:-3f800000,0 -3f800000,0 -3f800000,0 -3f800000,0\n"
	onesText  = "2:3f800000,0 3f800000,0 3f800000,0 3f800000,0\n"
)

func TestConsoleByHand(t *testing.T) {
	for text, outputs := range map[string]string{
		"":                        "",
		"energy":                  "40800000,0\n",
		"energy\n":                "40800000,0\n",
		"energy\nlevel":           "40800000,0\n3f800000,0\n",
		"energy\nlevel\n":         "40800000,0\n3f800000,0\n",
		"\nenergy\n":              "40800000,0\n",
		"\n\n\nenergy":            "40800000,0\n",
		"energy\n\n\nlevel\n":     "40800000,0\n3f800000,0\n",
		"energy\n\n":              "40800000,0\n",
		"energy\n\n\n":            "40800000,0\n",
		"\n\nenergy\n\nlevel\n\n": "40800000,0\n3f800000,0\n",
		"\n":                      "",
		"\n\n\n":                  "",
		" ":                       "error\n",
		" \n":                     "error\n",
		"  \n \n":                 "error\nerror\n",
		"energy\n \nlevel":        "40800000,0\nerror\n3f800000,0\n",
		"energy \nlevel":          "error\n3f800000,0\n",
		" energy\nlevel":          "error\n3f800000,0\n",
		"energy\r\nlevel\r\n":     "error\nerror\n",
		"energy\r":                "error\n",
		"\r\n\r\n":                "error\nerror\n",
		"\r":                      "error\n",
		"energy\rlevel\n":         "error\n",
		"energy\n\rlevel\n":       "40800000,0\nerror\n",
		"\t\nenergy":              "error\n40800000,0\n",
		"\x00\nenergy\x00\nlevel": "error\nerror\n3f800000,0\n",
		"\xff\n\xfe\xfd\nenergy":  "error\nerror\n40800000,0\n",
		"energy\u2028level":       "error\n",
		"energy\u0085level\x0b":   "error\n",
		"energy;level\nopen":      "error\n2 2\n",
		"first 1:0,0\r\nshow\n":   "error\n" + onesText,
		"reset\nreset":            "ok\nok\n",
		"fly\nerror\nok":          "error\nerror\nerror\n",
	} {
		wantConsole(t, text, outputs, newBench)
	}
}

// The lines of a text work on one bench, one after the other, and each text begins with the new one.
func TestLinesOneAfterTheOther(t *testing.T) {
	wantConsole(t, minusLine, minusText, minusOnes)
	wantConsole(t, minusLine+"\nshow\nfly\n\nshow", minusText+minusText+"error\n"+minusText, minusOnes)
	wantConsole(t, minusLine+"\nswap\nother\nswap\n", minusText+onesText+minusText+minusText, minusOnes)
	wantConsole(t, minusLine+"\nreset\nshow\n", minusText+"ok\n"+onesText, newBench)
	wantConsole(t, "show\n"+minusLine+"\nplane 3 0 0\n", onesText+minusText+"error\n", minusOnes)
	wantConsole(t, "show", onesText, newBench)
	wantConsole(t, minusLine+"\nadd\nadd\nenergy\nsee\nsum 0\nopen\ncontrast\n",
		minusText+"2:0,0 0,0 0,0 0,0\n"+onesText+"40800000,0\n"+onesText+"40800000,0\n2 2\n0,0\n", withParts(newBench, impl.Bench{Picture: even(2, 1)}))
	wantConsole(t, "plane 2 1 0\nsecond 2:0,0 0,0 0,0 40400000,0\ntimes\nrecord\nlook\n",
		"2:3f800000,0 -3f800000,0 3f800000,0 -3f800000,0\n2:0,0 0,0 0,0 40400000,0\n2:0,0 0,0 0,0 -40400000,0\n2:0,0 0,0 0,0 0,0\n2:0,0 0,0 0,0 0,0\n",
		impl.Bench{First: flat(2, 0), Second: waveOf(2, 0, 0, 0, 3), Picture: even(2, 0)})
}

// Texts with as many lines as there can be, and with one more, empty ones and wrong ones included.
func TestMaxLines(t *testing.T) {
	for line, output := range map[string]string{"reset": "ok\n", "": "", " ": "error\n", "energy": "40800000,0\n", "\r": "error\n", "x": "error\n"} {
		for count := range 40 {
			wantConsole(t, strings.Repeat(line+"\n", count), strings.Repeat(output, count), newBench)
			wantConsole(t, strings.Repeat(line+"\n", count)+"energy", strings.Repeat(output, count)+"40800000,0\n", newBench)
		}
		wantConsole(t, strings.Repeat(line+"\n", 40), strings.Repeat(output, 40), newBench)
		wantConsole(t, strings.Repeat(line+"\n", 39)+"energy\n", strings.Repeat(output, 39)+"40800000,0\n", newBench)
		wantConsole(t, "energy\n"+strings.Repeat(line+"\n", 39), "40800000,0\n"+strings.Repeat(output, 39), newBench)
		for _, more := range []string{"energy", "energy\n", " ", "\n", "\r", "x", "\nenergy", "\n\n", "\xff"} {
			wantRefused(t, strings.Repeat(line+"\n", 40)+more)
			wantRefused(t, "reset\n"+strings.Repeat(line+"\n", 39)+more)
			wantRefused(t, minusLine+"\n"+strings.Repeat(line+"\n", 39)+more)
		}
		for _, count := range []int{41, 42, 80, 1000} {
			wantRefused(t, strings.Repeat(line+"\n", count))
			wantRefused(t, strings.Repeat("\n", count)+line)
		}
	}
	wantConsole(t, strings.Repeat("\n", 39)+minusLine, minusText, minusOnes)
	wantConsole(t, strings.Repeat("\n", 39)+minusLine+"\n", minusText, minusOnes)
	wantRefused(t, strings.Repeat("\n", 40)+minusLine)
	wantRefused(t, strings.Repeat("\n", 39)+minusLine+"\n\n")
}

// Texts with as many bytes as there can be, and with one more.
func TestMaxConsole(t *testing.T) {
	fill := func(text, with string) string { return text + strings.Repeat(with, (9000-len(text))/len(with)) }
	for _, beginning := range []string{"", "energy\n", "energy\n\n\n"} {
		outputs := strings.Repeat("40800000,0\n", min(1, len(beginning)))
		for _, with := range []string{"x", " ", "\x00", "\r"} {
			text := fill(beginning, with)
			wantConsole(t, text, outputs+"error\n", newBench)
			wantConsole(t, text[:8999]+"\n", outputs+"error\n", newBench)
			wantConsole(t, text[:8999], outputs+"error\n", newBench)
			wantRefused(t, text+"\n")
			wantRefused(t, text+with)
			wantRefused(t, text+"\nenergy")
			wantRefused(t, text+text)
		}
	}
	last := fill("", "x")[:9000-len("\n"+minusLine)]
	wantConsole(t, last+"\n"+minusLine, "error\n"+minusText, minusOnes)
	wantRefused(t, last+"x\n"+minusLine)
	wantRefused(t, last+"\n"+minusLine+"\n")
	wantRefused(t, minusLine+"\n"+fill("", " "))
}

// The limit is one of bytes, whatever letters they make.
func TestMaxConsoleOfLetters(t *testing.T) {
	for _, letter := range []string{"\u00e9", "\u20ac", "\U0001d7cf", "\xff"} {
		text := strings.Repeat(letter, 9000/len(letter))
		wantConsole(t, text, "error\n", newBench)
		wantRefused(t, text+letter)
		wantRefused(t, text+"\n")
	}
	// A great text of a wave fits.
	wave := impl.Wave{Side: 8}
	for i := range wave.Cells {
		wave.Cells[i] = complex(-most, -least*float32(i))
	}
	text := textOf(wave)
	wantConsole(t, "second "+text+"\nother\nswap", text+"\n"+text+"\n"+text+"\n",
		impl.Bench{First: wave, Second: newBench.First, Picture: newBench.Picture})
}

// someText returns a text of lines of all kinds, with what the console puts out and the bench behind
// it by the rows of the table.
func (n *numbers) someText() (text, outputs string, b impl.Bench) {
	b = newBench
	all := rows()
	for range 1 + n.bits()%40 {
		switch n.bits() % 12 {
		case 0:
			text += "\n"
		case 1:
			text += []string{"fly", " ", "show ", "plane 2 1", "travel 01", "first 1:0", "\r", "sum"}[n.bits()%8] + "\n"
			outputs += "error\n"
		case 2:
			w := n.wave(sides[n.bits()%2], -3, 3)
			b.Second = w
			text += "second " + textOf(w) + "\n"
			outputs += textOf(w) + "\n"
		default:
			r := all[n.bits()%uint64(len(all))]
			numbers := n.numbersOf(r)
			text += r.lineWith(numbers) + "\n"
			if o := r.do(b, four(numbers)); o.code == impl.ErrNone {
				b, outputs = o.bench, outputs+o.output+"\n"
			} else {
				outputs += "error\n"
			}
		}
	}
	if n.bits()%2 == 0 {
		text = strings.TrimSuffix(text, "\n")
	}
	return text, outputs, b
}

// Texts of lines of all kinds do what the rows of the table say, whatever text has been before.
func TestTextsOfAllLines(t *testing.T) {
	n, refused := numbers{730}, 0
	for range 1500 {
		text, outputs, b := n.someText()
		if len(text) > 9000 {
			wantRefused(t, text)
			refused++
			continue
		}
		wantConsole(t, text, outputs, b)
	}
	if refused > 100 {
		t.Errorf("%d texts are too long", refused)
	}
}
