package tests

import (
	"fmt"
	"math/rand"
	"regexp"
	"strconv"
	"strings"
	"testing"

	"loop.example/g00187/impl"
)

// plainLines are a text's lines, written anew: byte by byte.
func plainLines(text string) []string {
	var lines []string
	begun := 0
	for at := range len(text) {
		if text[at] == 10 {
			lines = append(lines, text[begun:at])
			begun = at + 1
		}
	}
	if begun < len(text) {
		lines = append(lines, text[begun:])
	}
	return lines
}

// plainBench is what Bench must answer, written anew.
func plainBench(text string) string {
	lines := plainLines(text)
	if len(text) > 6000 || len(lines) > 40 {
		return "too long\n"
	}
	told := ""
	for _, line := range lines {
		if len(line) > 0 {
			told += plainAnswer(line) + "\n"
		}
	}
	return told
}

var (
	machLine = regexp.MustCompile(`(?s)\Amach (0|[1-9][0-9]{0,2}) (0|[1-9][0-9]{0,2})(?: (.*))?\z`)
	wordLine = regexp.MustCompile(`(?s)\A(type|run|size|mono)(?: (.*))?\z`)
)

// plainAnswer is the answer to a line that is not empty, by the test's own steps.
func plainAnswer(line string) string {
	if m := machLine.FindStringSubmatch(line); m != nil {
		size, _ := strconv.Atoi(m[1])
		every, _ := strconv.Atoi(m[2])
		return plainMachAnswer(size, every, m[3])
	}
	m := wordLine.FindStringSubmatch(line)
	if m == nil {
		return "what"
	}
	switch m[1] {
	case "type":
		return plainTypeAnswer(m[2])
	case "mono":
		return plainMonoAnswer(m[2])
	}
	w := plainWorkOn(m[2])
	if w.why != 0 {
		return fmt.Sprint("error ", w.why)
	}
	if m[1] == "run" {
		return plainOutcome(w.run(5000))
	}
	sizes := fmt.Sprint(w.sizes())
	return sizes[1 : len(sizes)-1]
}

func plainMachAnswer(size, every int, text string) string {
	w := plainWorkOn(text)
	if w.why != 0 {
		return fmt.Sprint("error ", w.why)
	}
	end, h := plainRunMach(w.code, size, every, 20000)
	return fmt.Sprintf("%s %d", plainOutcome(end), h.collected)
}

func plainTypeAnswer(text string) string {
	term, ok := impl.ParseTerm(text)
	if !ok {
		return "error 9"
	}
	ty, code := plainCheck(term)
	if code != 0 {
		return fmt.Sprint("error ", code)
	}
	return ty
}

func plainMonoAnswer(text string) string {
	term, ok := impl.ParseTerm(text)
	if !ok {
		return "error 9"
	}
	copied, code, _ := plainMono(term)
	if code != 0 {
		return fmt.Sprint("error ", code)
	}
	return plainTermText(copied)
}

func plainOutcome(o impl.Outcome) string {
	switch o {
	case isFuel:
		return "fuel"
	case isRoom:
		return "room"
	}
	if o.End == impl.EndRaise {
		return fmt.Sprint("raise ", o.N)
	}
	return "is " + o.Text
}

// benched fails when Bench, or the test's own, does not answer a text so.
func benched(t *testing.T, text, want string) {
	t.Helper()
	if own := plainBench(text); own != want {
		t.Errorf("the test's own: %.300q: %.300q, not %.300q", text, own, want)
	}
	if got := impl.Bench(text); got != want {
		t.Errorf("%.300q: %.300q, not %.300q", text, got, want)
	}
}

// answered fails when a line is not answered so: alone, with a byte 10 behind it or without, and among others.
func answered(t *testing.T, line, answer string) {
	t.Helper()
	benched(t, line, answer+"\n")
	benched(t, line+"\n", answer+"\n")
	benched(t, "\n"+line+"\n\n", answer+"\n")
	benched(t, "size n 7\n"+line+"\nrun v x 0\n"+line, "1 1 0 2 1\n"+answer+"\nerror 2\n"+answer+"\n")
}

// answeredAll takes lines with their answers, a line and its answer at a time, and hands out both in one text each.
func answeredAll(t *testing.T, cases [][2]string) {
	t.Helper()
	for _, c := range cases {
		answered(t, c[0], c[1])
	}
	for at := 0; at < len(cases); at += 40 {
		text, want := "", ""
		for _, c := range cases[at:min(at+40, len(cases))] {
			text += c[0] + "\n"
			want += c[1] + "\n"
		}
		if len(text) > 6000 {
			continue
		}
		benched(t, text, want)
	}
}

// counting is a program that counts down from each of these, and ends with 0; so many tries are around it, which are never needed.
func counting(tries int, from ...int) string {
	counts := ""
	for at, n := range from {
		if at < len(from)-1 {
			counts += " op +"
		}
		counts += " app v f 0 n " + strconv.Itoa(n)
	}
	return strings.Repeat("try e ", tries) + "fix f 0 f i i fn x i if op < v x 0 n 1 n 0 app v f 0 op - v x 0 n 1" + counts + strings.Repeat(" n 5", tries)
}

// filledUp is a text with a last line of bytes that are no word, and has so many bytes.
func filledUp(text string, size int) string {
	return text + strings.Repeat("?", size-len(text))
}

// benchLines are lines of all sorts, found by chance, always the same ones.
func benchLines(n int, seed int64) []string {
	r := rand.New(rand.NewSource(seed))
	texts := append(allTexts(n), goodTexts()...)
	texts = append(texts, "", "pair n 1 n 2", "v x 0", "n", groups("c", 10, 10, 11), "let longname 1 n 1 v longname 1 i", "let x.1 0 n 1 v x.1 0")
	numbers := []string{"0", "1", "2", "3", "7", "10", "40", "100", "999", "00", "1000", "-1", "", "x"}
	var lines []string
	for range n {
		text := texts[r.Intn(len(texts))]
		if r.Intn(3) == 0 {
			text = changedText(r, text)
		}
		word := []string{"type", "run", "mach", "mach", "size", "mono"}[r.Intn(6)]
		if word == "mach" {
			most := len(numbers)
			if r.Intn(3) > 0 {
				most -= 5
			}
			word += " " + numbers[r.Intn(most)] + " " + numbers[r.Intn(most)]
		}
		line := word + " " + text
		switch r.Intn(14) {
		case 0:
			line = strings.Replace(line, " ", "  ", 1+r.Intn(3))
		case 1:
			line = spoiltLine(r, line)
		case 2:
			line = ""
		}
		lines = append(lines, line)
	}
	return lines
}

// spoiltLine has a byte changed, left out, or put in, most often near its beginning.
func spoiltLine(r *rand.Rand, line string) string {
	at := r.Intn(min(len(line), 1+r.Intn(60)))
	other := string(" \t\r\x00\xff0123abtymM?"[r.Intn(16)])
	switch r.Intn(3) {
	case 0:
		return line[:at] + line[at+1:]
	case 1:
		return line[:at] + other + line[at:]
	}
	return line[:at] + other + line[at+1:]
}

// benchTexts are such lines, as many together as may be, each text with its lines.
func benchTexts(lines []string) [][]string {
	var texts [][]string
	var text []string
	size := 0
	for _, line := range lines {
		if len(text) == 40 || size+len(line)+1 > 6000 {
			texts = append(texts, text)
			text, size = nil, 0
		}
		text = append(text, line)
		size += len(line) + 1
	}
	return append(texts, text)
}
