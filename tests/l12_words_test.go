package tests

import (
	"strings"
	"testing"

	"loop.example/g01225/impl"
)

// commandOf returns the first word of a line.
func commandOf(line string) string {
	word, _, _ := strings.Cut(line, " ")
	return word
}

// goodLines returns a line for each command, those with TEXT included, none of which has the output
// error on the bench of goodBench.
func goodLines() []string {
	lines := []string{"first 2:1,2 3,4 5,6 7,8", "second 1:3f800000,0"}
	for _, r := range rows() {
		lines = append(lines, r.line())
	}
	return lines
}

func TestGoodLines(t *testing.T) {
	for _, line := range goodLines() {
		if after, output := impl.RunLine(goodBench(), line); output == "error" || output == "" || !impl.IsBench(after) {
			t.Errorf("RunLine of %q: %v, %q", line, after, output)
		}
	}
}

// A word is missing, or there is one too many, which may be empty.
func TestWordsMissingAndTooMany(t *testing.T) {
	b := goodBench()
	for _, line := range goodLines() {
		words := strings.Split(line, " ")
		for i := range words {
			less := append(append([]string{}, words[:i]...), words[i+1:]...)
			wantErrorOf(t, b, strings.Join(less, " "))
			beginning, rest := strings.Join(words[:i], " "), strings.Join(words[i:], " ")
			wantErrorOf(t, b, beginning)
			wantErrorOf(t, b, beginning+"  "+rest)
			wantErrorOf(t, b, beginning+"   "+rest)
			wantErrorOf(t, b, strings.TrimPrefix(beginning+" "+words[i]+" "+rest, " "))
		}
		for _, more := range []string{" ", "  ", " 0", " 1", " x", " 1 1", "  1", " 1 ", " 1:0,0", " " + line, strings.Repeat(" ", 100)} {
			wantErrorOf(t, b, line+more)
		}
		for _, ahead := range []string{" ", "  ", "0 ", "1 ", "x ", "reset ", "show "} {
			wantErrorOf(t, b, ahead+line)
		}
	}
}

// Bytes other than blanks do not part words, and are left out nowhere.
func TestOtherBytesInLines(t *testing.T) {
	b := goodBench()
	for _, line := range goodLines() {
		for _, other := range []string{"\t", "\r", "\n", "\x00", "\v", "\f", "\u00a0", "\u0085", "\u2028", "\u3000", "\ufeff", "\xff", ",", ";", "#"} {
			wantErrorOf(t, b, line+other)
			wantErrorOf(t, b, other+line)
			if strings.Contains(line, " ") {
				wantErrorOf(t, b, strings.Replace(line, " ", other, 1))
				wantErrorOf(t, b, strings.ReplaceAll(line, " ", other))
				wantErrorOf(t, b, strings.Replace(line, " ", " "+other, 1))
				wantErrorOf(t, b, strings.Replace(line, " ", other+" ", 1))
			}
		}
	}
}

// Commands in capital letters, the beginnings of commands, and such as go on.
func TestOtherCommands(t *testing.T) {
	b := goodBench()
	for _, line := range goodLines() {
		name := commandOf(line)
		rest := strings.TrimPrefix(line, name)
		wantErrorOf(t, b, strings.ToUpper(name)+rest)
		for i := range name {
			wantErrorOf(t, b, name[:i]+strings.ToUpper(name[i:i+1])+name[i+1:]+rest)
			wantErrorOf(t, b, name[:i]+rest)
			wantErrorOf(t, b, name[i+1:]+rest)
			wantErrorOf(t, b, name[:i]+name[i+1:]+rest)
			wantErrorOf(t, b, name[:i]+"\u017f"+name[i+1:]+rest)
		}
		for _, more := range []string{"s", "e", "1", "-", ":", "_", "\x00"} {
			wantErrorOf(t, b, name+more+rest)
		}
	}
	for _, line := range []string{
		"", " ", "  ", "\n", "fly", "help", "error", "ok", "third 1:0,0", "w", "W", "V", "P", "1", "0", "1:0,0", "center", "multiply",
		"check 2 1", "zones 2 1 1 1", "blazed 2 1 1", "union", "complement", "focus", "distance", "direct", "norm", "read", "store",
		"first\n1:0,0", "first\t1:0,0", "show\nreset", "\xff\xfe", strings.Repeat("show ", 100000), strings.Repeat(" ", 100000),
	} {
		wantErrorOf(t, b, line)
	}
}

// noNumberFor returns words that are no numbers, but that others may take for the number of a word, or
// for another one in its range.
func noNumberFor(word string) []string {
	return []string{
		"", "00", "01", "+1", "-1", "-0", "+0", "--1", "a", "x", "1a", "a1", "0x1", "0b1", "0o1", "1e0", "1.0", "1_0", "0.5", "1,0", "1,",
		"0" + word, "00" + word, "000000000" + word, "0000000000" + word, "+" + word, "-" + word, word + "a", word + ".", word + ".0",
		word + "_", "_" + word, "0x" + word, word + "\t", "\t" + word, word + "\n", word + "\r", word + "\x00", "'" + word + "'",
		"\u0661", "\uff11", "\u0967", "\u00b9", "\u2460", "\u0660", "\uff10", "\U0001d7cf", "\xb1", word + "\u0661", "\ufeff" + word,
		"1000000000", "1234567890", "9999999999", "4294967296", "4294967297", "18446744073709551616", "18446744073709551617",
		"9223372036854775807", "9223372036854775808", "-9223372036854775808", "340282366920938463463374607431768211457",
		strings.Repeat("1", 1000), strings.Repeat("0", 100000) + word,
	}
}

// Words that are no numbers, at each place of each row.
func TestWordsThatAreNoNumbers(t *testing.T) {
	b := goodBench()
	for _, r := range rows() {
		words := strings.Split(r.line(), " ")
		for i := 1; i < len(words); i++ {
			for _, bad := range noNumberFor(words[i]) {
				other := append([]string{}, words...)
				other[i] = bad
				wantErrorOf(t, b, strings.Join(other, " "))
			}
		}
	}
}

// Numbers of up to nine digits are numbers. What functions say of them is told by the rows.
func TestNumbersOfNineDigits(t *testing.T) {
	b := goodBench()
	for _, r := range rows() {
		for i := range r.numbers {
			for _, k := range []int64{0, 1, 9, 10, 63, 64, 65, 99, 100, 1000, 1001, 99999999, 100000000, 999999999} {
				numbers := append([]int64{}, r.numbers...)
				numbers[i] = k
				r.wantRowOf(t, b, numbers)
			}
		}
	}
	wantRunLine(t, b, "plane 2 0 0", withParts(b, impl.Bench{First: flat(2, 1)}), textOf(flat(2, 1)))
	wantRunLine(t, b, "disc 1 0 0 1000", withParts(b, impl.Bench{Second: flat(1, 1)}), "1:3f800000,0")
	wantErrorOf(t, b, "disc 1 0 0 1001")
}

// wantText wants what the lines with a TEXT do.
func wantText(t *testing.T, b impl.Bench, text string, want impl.Wave) {
	t.Helper()
	wantRunLine(t, b, "first "+text, withParts(b, impl.Bench{First: want}), text)
	wantRunLine(t, b, "second "+text, withParts(b, impl.Bench{Second: want}), text)
}

// wantNoText wants the output error of the lines with a TEXT.
func wantNoText(t *testing.T, b impl.Bench, text string) {
	t.Helper()
	wantErrorOf(t, b, "first "+text)
	wantErrorOf(t, b, "second "+text)
}

func TestTextsInLines(t *testing.T) {
	n := numbers{710}
	for _, c := range texts {
		wantText(t, goodBench(), c.text, waveOf(1, c.z))
	}
	forBenches(&n, 4, func(b impl.Bench) {
		w := n.wave(sides[n.bits()%4], -149, 127)
		wantText(t, b, textOf(w), w)
		for _, w := range []impl.Wave{b.First, b.Second} {
			wantText(t, b, textOf(w), w)
		}
	})
}

func TestNoTextsInLines(t *testing.T) {
	b := goodBench()
	for _, text := range []string{
		"", " ", "  ", "x", "1", "1:", ":0,0", "1:0", "1:,", "1:0,0,0", "2:0,0", "3:0,0", "0:", "01:0,0", "+1:0,0", "1:00,0", "1:-0,0",
		"1:3F800000,0", "1:7f800000,0", "1:0,-7f800000", "1:7fc00000,0", "1:g,0", "1:0,\u0661", "1: 0,0", "1 :0,0", "1:0 ,0",
		"2:0,0 0,0 0,0", "2:0,0 0,0 0,0 0,0 0,0", "2:0,0  0,0 0,0 0,0", "2:0,0\t0,0 0,0 0,0", "first 1:0,0", "first", "1:0,0 first",
		"\"1:0,0\"", strings.Repeat("0", 100000) + "1:0,0",
	} {
		wantNoText(t, b, text)
	}
	for _, text := range []string{"1:0,0", textOf(b.First), textOf(flat(8, -1i))} {
		for _, blank := range []string{" ", "  ", "\t", "\n", "\r", "\x00"} {
			wantNoText(t, b, blank+text)
			wantNoText(t, b, text+blank)
			wantNoText(t, b, blank+text+blank)
		}
	}
	for _, line := range []string{
		"first", "second", "first1:0,0", "second1:0,0", "first\t1:0,0", "second:1:0,0", " first 1:0,0", " second 1:0,0", "First 1:0,0",
		"SECOND 1:0,0", "firs 1:0,0", "seco 1:0,0", "firsts 1:0,0", "1:0,0", "first,1:0,0",
	} {
		wantErrorOf(t, b, line)
	}
}

// Lines for which functions return other codes than ErrNone: for a number out of its range, for two
// sides, for a wave that is no mask, for what is not finite and for a picture of zeros.
func TestLinesOfOtherCodes(t *testing.T) {
	b := goodBench()
	for _, line := range []string{
		"plane 3 0 0", "plane 0 0 0", "plane 16 0 0", "plane 2 65 0", "plane 2 0 65", "shift 65 0", "shift 0 65", "band 1 0", "band 0 9",
		"band 9 9", "slit 3 0 0", "slit 2 2 0", "slit 2 1 2", "slit 2 0 3", "grating 3 1 1", "grating 2 0 0", "grating 2 3 0", "grating 2 1 2",
		"disc 3 0 0 0", "disc 2 3 0 0", "disc 2 0 3 0", "disc 2 0 0 1001", "lens 3 0 0 0", "lens 2 3 0 0", "lens 2 0 3 0", "lens 2 0 0 65",
		"travel 65", "retreat 65", "tilt 9 0", "tilt 0 9", "start 64", "code 3 0", "code 2 4", "code 1 1", "sum 4",
	} {
		wantErrorOf(t, b, line)
	}
	for _, lines := range []struct {
		parts impl.Bench
		lines string
	}{
		{impl.Bench{Second: flat(4, 1)}, "add times convolve correlate behind record look inner"},
		{impl.Bench{First: flat(1, 1)}, "add times convolve correlate behind record get inner"},
		{impl.Bench{Picture: even(8, 1)}, "look get"},
		{impl.Bench{Second: flat(2, 2)}, "behind open"},
		{impl.Bench{Second: waveOf(2, 1, 1, 1, complex(1, least))}, "behind open"},
		{impl.Bench{Picture: even(2, 0)}, "contrast"},
		{impl.Bench{First: flat(2, most), Second: flat(2, most)}, "add times convolve correlate record inner transform see get energy level trip back"},
		{impl.Bench{First: flat(2, 0x1p64)}, "see get energy level"},
		{impl.Bench{First: flat(2, 0x1p63)}, "energy"},
		{impl.Bench{First: flat(2, most)}, "travel_0 travel_64 retreat_0 retreat_1 band_0_8 band_0_0"},
		{impl.Bench{First: flat(8, complex(most, most))}, "tilt_1_1 tilt_7_0"},
		{impl.Bench{Second: flat(2, most), Picture: even(2, 2)}, "look"},
		{impl.Bench{Picture: even(2, most)}, "sum_0 contrast"},
	} {
		for _, line := range strings.Fields(lines.lines) {
			wantErrorOf(t, withParts(b, lines.parts), strings.ReplaceAll(line, "_", " "))
		}
	}
}
