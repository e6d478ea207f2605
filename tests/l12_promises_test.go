package tests

import (
	"strings"
	"sync"
	"testing"

	"loop.example/g01225/impl"
)

// someLines returns lines with and without the output error.
func (n *numbers) someLines() []string {
	lines := append(goodLines(), "", " ", "fly", "first", "second 1:0", "plane 2 1", "shift 1 01", "travel -1", "first "+strings.Repeat("0,0 ", 64))
	for _, r := range rows() {
		lines = append(lines, r.lineWith(n.numbersOf(r)))
	}
	return append(lines, "first "+textOf(n.wave(sides[n.bits()%4], -149, 127)), "second "+textOf(n.mask(sides[n.bits()%4])))
}

// Promise 12 and guarantee: each line leads from a bench to a bench, and one with the output error
// changes nothing, not even the sign of a zero.
func TestLinesLeadFromBenchesToBenches(t *testing.T) {
	n, wrong, right := numbers{740}, 0, 0
	forBenches(&n, 3, func(b impl.Bench) {
		for _, line := range n.someLines() {
			after, output := impl.RunLine(b, line)
			if !impl.IsBench(after) || output == "" || strings.Contains(output, "\n") {
				t.Errorf("RunLine(%v, %q) = %v, %q", b, line, after, output)
			}
			if output != "error" {
				right++
				continue
			}
			wrong++
			wantSameBits(t, "the first wave after an error", after.First, impl.ErrNone, b.First)
			wantSameBits(t, "the second wave after an error", after.Second, impl.ErrNone, b.Second)
			if after != b {
				t.Errorf("%q changes %v to %v", line, b, after)
			}
		}
	})
	if wrong < 2000 || right < 2000 {
		t.Errorf("%d lines with the output error, and %d others", wrong, right)
	}
}

// Promise 12 and guarantee: the console joins the outputs of its lines, each followed by a newline,
// and the bench after them is that to which the lines lead.
func TestConsoleJoinsOutputs(t *testing.T) {
	n := numbers{741}
	for range 300 {
		lines := n.someLines()
		var text, outputs string
		b := impl.NewBench()
		for range 1 + n.bits()%40 {
			line := lines[n.bits()%uint64(len(lines))]
			if len(text)+len(line) >= 9000 {
				break
			}
			text += line + "\n"
			if line != "" {
				after, output := impl.RunLine(b, line)
				b, outputs = after, outputs+output+"\n"
			}
		}
		wantConsole(t, text, outputs, b)
		wantConsole(t, strings.TrimSuffix(text, "\n"), outputs, b)
	}
}

// What a text leads to is the same as that of its lines in two texts, where the second one begins with
// the bench behind the first one.
func TestTextsInTwoParts(t *testing.T) {
	first, second := "plane 4 1 2\nslit 4 1 2\nbehind\ntravel 3\nsee\n", "start 5\ntransform\ncode 4 9\nrecord\nlook\ntilt 1 2\n"
	middle, _ := impl.BenchAfter(first)
	all := ""
	for line := range strings.Lines(second) {
		after, output := impl.RunLine(middle, strings.TrimSuffix(line, "\n"))
		middle, all = after, all+output+"\n"
	}
	wantConsole(t, first+second, impl.Console(first)+all, middle)
}

// Nothing is kept from call to call, and calls at once do not meet each other.
func TestConsolesInGoroutines(t *testing.T) {
	n := numbers{742}
	var callers sync.WaitGroup
	for range 12 {
		text, outputs, b := n.someText()
		if len(text) > 9000 {
			continue
		}
		good := goodBench()
		callers.Go(func() {
			for range 5 {
				wantConsole(t, text, outputs, b)
				wantRunLine(t, good, "swap", impl.Bench{First: good.Second, Second: good.First, Picture: good.Picture}, textOf(good.Second))
				wantRefused(t, strings.Repeat("\n", 41))
			}
		})
	}
	callers.Wait()
}
