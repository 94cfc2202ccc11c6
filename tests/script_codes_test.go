package tests

import (
	"fmt"
	"math"
	"math/rand"
	"regexp"
	"slices"
	"strconv"
	"strings"
	"testing"

	"loop.example/g00311/impl"
)

// Promise 1: the functions of scripts answer at every argument. Here: which code, and which of two comes first.

const plainNumber = `(0|[1-9][0-9]{0,4})`
const plainList = `(-|(?:0|[1-9][0-9]{0,4})(?:,(?:0|[1-9][0-9]{0,4}))*)`

// plainForms are the words of each kind of operation, with one blank between.
var plainForms = map[int64]*regexp.Regexp{
	1: regexp.MustCompile(`\Ahard ` + plainNumber + ` ` + plainNumber + `\z`),
	2: regexp.MustCompile(`\Aappend ` + plainNumber + ` ` + plainNumber + ` ` + plainNumber + ` ` + plainList + `\z`),
	3: regexp.MustCompile(`\Acompact ` + plainNumber + ` ` + plainList + `\z`),
	4: regexp.MustCompile(`\Ainstall ` + plainNumber + ` ` + plainNumber + ` ` + plainList + `\z`),
	5: regexp.MustCompile(`\Aread ` + plainNumber + `\z`),
}
var plainCrashForm = regexp.MustCompile(`\Acrash ` + plainNumber + ` (.*)\z`)

// plainWords goes byte by byte.
func plainWords(line string) []string {
	var words []string
	inside := false
	for i := range len(line) {
		if line[i] == 32 {
			inside = false
			continue
		}
		if !inside {
			words = append(words, "")
		}
		words[len(words)-1] += line[i : i+1]
		inside = true
	}
	return words
}

// plainInts takes numbers with commas between, or what stands for none.
func plainInts(text string) []int64 {
	if text == "-" {
		return nil
	}
	var list []int64
	for _, piece := range strings.Split(text, ",") {
		number, err := strconv.ParseInt(piece, 10, 64)
		if err != nil {
			panic(err)
		}
		list = append(list, number)
	}
	return list
}

// plainOpIn is the operation of words with one blank between, if there is one.
func plainOpIn(words string) (impl.Op, bool) {
	for kind, form := range plainForms {
		found := form.FindStringSubmatch(words)
		if found == nil {
			continue
		}
		last := plainInts(found[len(found)-1])
		at := func(i int) int64 { return plainInts(found[i])[0] }
		o := map[int64]func() impl.Op{
			1: func() impl.Op { return hardOp(at(1), at(2)) },
			2: func() impl.Op { return appendOp(at(1), at(2), entryOf(at(1)+1, at(3), last...)) },
			3: func() impl.Op { return compactOp(at(1), last...) },
			4: func() impl.Op { return installOp(at(1), at(2), last...) },
			5: func() impl.Op { return readOp(at(1)) },
		}[kind]()
		return o, plainOpFault(o) == impl.OK
	}
	return impl.Op{}, false
}

func plainCommas(list []int64) string {
	if len(list) == 0 {
		return "-"
	}
	return strings.ReplaceAll(strings.Trim(fmt.Sprint(list), "[]"), " ", ",")
}

func plainOpTextFault(o impl.Op) int64 {
	beyond := slices.ContainsFunc([]int64{o.Index, o.Term, o.Vote}, func(number int64) bool { return outside(number, 0, 99999) })
	code := firstCode(plainOpFault(o), notSo(o.Kind == 2 && len(o.List) != 1, impl.ErrMany), notSo(beyond, impl.ErrRange))
	if code == impl.OK && o.Kind == 2 && o.List[0].Index-1 != o.Index {
		return impl.ErrForm
	}
	return code
}

func plainOpText(o impl.Op) impl.TextResult {
	if code := plainOpTextFault(o); code != impl.OK {
		return impl.TextResult{Code: code}
	}
	text := ""
	switch o.Kind {
	case 1:
		text = fmt.Sprintf("hard %d %d", o.Term, o.Vote)
	case 2:
		text = fmt.Sprintf("append %d %d %d %s", o.Index, o.Term, o.List[0].Term, plainCommas(o.List[0].Data))
	case 3:
		text = fmt.Sprintf("compact %d %s", o.Index, plainCommas(o.Data))
	case 4:
		text = fmt.Sprintf("install %d %d %s", o.Index, o.Term, plainCommas(o.Data))
	case 5:
		text = fmt.Sprintf("read %d", o.Index)
	}
	return impl.TextResult{Text: text}
}

func plainRaftText(r impl.Raft) impl.TextResult {
	if code := storeFault(r); code != impl.OK {
		return impl.TextResult{Code: code}
	}
	text := fmt.Sprintf("term %d %d\nsnap %d %d %s\n", r.Term, r.Vote, r.SnapIndex, r.SnapTerm, plainCommas(r.Snap))
	for _, e := range r.Log {
		text += fmt.Sprintf("entry %d %d %s\n", e.Index, e.Term, plainCommas(e.Data))
	}
	return impl.TextResult{Text: text}
}

func plainSaid(r impl.WorldResult, text string) impl.ScriptResult {
	if r.Code != impl.OK {
		return impl.ScriptResult{Code: r.Code}
	}
	return impl.ScriptResult{World: r.World, Said: text}
}

func plainOpSaid(w impl.World, o impl.Op) impl.ScriptResult {
	done := plainOpWorld(w, o)
	switch {
	case done.Reply != impl.OK:
		return plainSaid(done, fmt.Sprint("no ", done.Reply))
	case o.Kind == 5:
		return plainSaid(done, fmt.Sprint("ok ", done.Value))
	}
	return plainSaid(done, "ok")
}

func plainCrashSaid(w impl.World, o impl.Op, steps int64) impl.ScriptResult {
	cut := plainCrashWorld(w, o, steps, same(2, 60))
	if cut.Code != impl.OK {
		return impl.ScriptResult{Code: cut.Code}
	}
	return plainSaid(plainOpenDisk(cut.Disk), "back")
}

func plainStepScript(w impl.World, line string) impl.ScriptResult {
	if code := firstCode(plainWorldFault(w), notSo(strings.Contains(line, "\n"), impl.ErrText)); code != impl.OK {
		return impl.ScriptResult{Code: code}
	}
	words := strings.Join(plainWords(line), " ")
	switch words {
	case "":
		return impl.ScriptResult{World: w}
	case "tidy":
		return plainSaid(plainTidy(w), "ok")
	case "show":
		return impl.ScriptResult{World: w, Said: plainRaftText(w.Raft).Text}
	}
	if o, there := plainOpIn(words); there {
		return plainOpSaid(w, o)
	}
	if found := plainCrashForm.FindStringSubmatch(words); found != nil {
		if o, there := plainOpIn(found[2]); there {
			return plainCrashSaid(w, o, plainInts(found[1])[0])
		}
	}
	return impl.ScriptResult{Code: impl.ErrText}
}

func plainLines(text string) []string {
	lines := strings.Split(text, "\n")
	if lines[len(lines)-1] == "" {
		lines = lines[:len(lines)-1]
	}
	return lines
}

func plainRunScript(w impl.World, text string) impl.ScriptResult {
	code := firstCode(plainWorldFault(w), notSo(len(text) > 1200 || len(plainLines(text)) > 40, impl.ErrMany))
	if code != impl.OK {
		return impl.ScriptResult{Code: code}
	}
	all := impl.ScriptResult{World: w}
	for _, line := range plainLines(text) {
		one := plainStepScript(all.World, line)
		switch {
		case one.Code != impl.OK:
			all.Said += fmt.Sprintf("! %d\n", one.Code)
			continue
		case one.Said != "":
			all.Said += strings.TrimSuffix(one.Said, "\n") + "\n"
		}
		all.World = one.World
	}
	return all
}

func wantScriptResult(t *testing.T, name string, r impl.ScriptResult, want impl.ScriptResult) {
	t.Helper()
	if r.Code != want.Code || r.Said != want.Said || !sameWorlds(r.World, want.World) {
		t.Fatalf("%s: %v, want %v", name, r, want)
	}
}

func wantScriptCode(t *testing.T, name string, r impl.ScriptResult, code int64) {
	t.Helper()
	wantCode(t, name, r.Code, r.Said == "" && sameWorlds(r.World, impl.World{}), code)
}

func wantTextResult(t *testing.T, name string, r impl.TextResult, want impl.TextResult) {
	t.Helper()
	if r != want {
		t.Fatalf("%s: %v, want %v", name, r, want)
	}
}

// wantLine holds a line against the plain one, and tells what it came to.
func wantLine(t *testing.T, w impl.World, line string) impl.ScriptResult {
	t.Helper()
	r := impl.StepScript(w, line)
	wantScriptResult(t, strconv.Quote(line), r, plainStepScript(w, line))
	if !strings.Contains(line, "\n") {
		wantScriptResult(t, strconv.Quote(line)+" as a script", impl.RunScript(w, line), plainRunScript(w, line))
	}
	return r
}

// wantNoLine asks that a line is none of what there is, with any blanks beside its words, and ahead of crash as well.
func wantNoLine(t *testing.T, line string) {
	t.Helper()
	for _, w := range []impl.World{impl.NewWorld(4).World, knownWorld(6, 9)} {
		for _, other := range []string{line, " " + line, line + "  ", "crash 0 " + line, "crash 2  " + line} {
			wantScriptCode(t, strconv.Quote(other), wantLine(t, w, other), impl.ErrText)
		}
	}
}

func TestWordsOf(t *testing.T) {
	for line, want := range map[string][]string{
		"": nil, " ": nil, "     ": nil, "a": {"a"}, " a": {"a"}, "a ": {"a"}, "  a  ": {"a"}, "a b": {"a", "b"}, "   a    b   ": {"a", "b"},
		"ab cd ef": {"ab", "cd", "ef"}, "a a a": {"a", "a", "a"}, "a\tb": {"a\tb"}, "\t": {"\t"}, " \t ": {"\t"}, "a\nb c\n": {"a\nb", "c\n"}, "\n": {"\n"},
		" \n \n": {"\n", "\n"}, "a\r b": {"a\r", "b"}, "\x00 \x01": {"\x00", "\x01"}, "\xff \x80": {"\xff", "\x80"}, "\xe2 \x80": {"\xe2", "\x80"},
		"a\u00a0b \u2003 \u3000c": {"a\u00a0b", "\u2003", "\u3000c"}, "a\x1fb!c": {"a\x1fb!c"}, "hard  2 1": {"hard", "2", "1"}, "\v\f \x85\xa0": {"\v\f", "\x85\xa0"},
	} {
		r := impl.WordsOf(line)
		if r.Code != impl.OK || !slices.Equal(r.Words, want) || !slices.Equal(plainWords(line), want) {
			t.Errorf("%q: %q, want %q", line, r.Words, want)
		}
	}
}

// Each byte is one of a word, but 32: alone, between two others, and beside blanks.
func TestWordsOfEachByte(t *testing.T) {
	for b := range 256 {
		x := string([]byte{byte(b)})
		alone, between, beside := []string{x}, []string{"a" + x + "b"}, []string{"a", x, "b"}
		if b == 32 {
			alone, between, beside = nil, []string{"a", "b"}, []string{"a", "b"}
		}
		for line, want := range map[string][]string{x: alone, x + x: alone, "a" + x + "b": between, "a " + x + " b": beside} {
			if line == x+x && b != 32 {
				want = []string{x + x}
			}
			if r := impl.WordsOf(line); r.Code != impl.OK || !slices.Equal(r.Words, want) {
				t.Errorf("%q: %q, want %q", line, r.Words, want)
			}
		}
	}
}

func TestWordsOfManyLines(t *testing.T) {
	rnd := rand.New(rand.NewSource(171))
	for range 20000 {
		bytes := make([]byte, rnd.Intn(14))
		for i := range bytes {
			bytes[i] = []byte{32, 32, 32, 9, 10, 97, 255, byte(rnd.Intn(256))}[rnd.Intn(8)]
		}
		line := string(bytes)
		if r := impl.WordsOf(line); r.Code != impl.OK || !slices.Equal(r.Words, plainWords(line)) {
			t.Fatalf("%q: %q, want %q", line, r.Words, plainWords(line))
		}
	}
	long := strings.Repeat(" ab", 100000)
	if r := impl.WordsOf(long); len(r.Words) != 100000 || r.Words[99999] != "ab" {
		t.Error(len(r.Words))
	}
}

type wordCase struct {
	word string
	good bool
}

// wordsForNumbers are numbers and what looks like one.
func wordsForNumbers() []wordCase {
	list := []wordCase{}
	for _, word := range []string{"0", "1", "2", "9", "10", "11", "99", "100", "999", "1000", "9999", "10000", "12345", "65535", "65536", "90000", "99999"} {
		list = append(list, wordCase{word, true})
	}
	for _, word := range []string{
		"100000", "123456", "999999", "1000000", "4294967296", "4294967297", "9223372036854775807", "9223372036854775808", "18446744073709551616", "18446744073709551617",
		"-1", "-0", "+0", "+1", "--1", "00", "01", "001", "00000", "00001", "000001", "09", "0x1", "0b1", "0o1", "1e1", "1.0", "1.", ".1", "1_0", "1,", ",1", ",", "-", "_",
		"a", "1a", "a1", "1\t", "\t1", "1\r", "1\x00", "\x001", "\xff", "1\xff", "\u0661", "\uff11", "1\u00a0", "²", "'1'", "one", "/", ":", "1/", "1:", "N",
	} {
		list = append(list, wordCase{word, false})
	}
	return list
}

// wordsForLists are lists and what looks like one, of numbers that may be words of data.
func wordsForLists() []wordCase {
	list := []wordCase{}
	for _, word := range []string{"-", "0", "7", "65535", "0,0", "1,2", "7,8,9", "10,100,1000,10000", "1,2,3,4,5,6", "65535,0"} {
		list = append(list, wordCase{word, true})
	}
	for _, word := range []string{
		",", ",,", ",1", "1,", "1,,2", ",1,2", "1,2,", "1,2,,", ",,1", "-,1", "1,-", "-,-", "--", "-1", "1,-1", "-1,1", "-,", ",-", "01", "1,02", "00,1", "1,00", "+1", "1,+2", "100000", "1,100000",
		"1, 2", "1 ,2", "1 2", "1;2", "1.2", "1,a", "a,1", "a", "\t-", "-\t", "1,\t2", "1,2\r", "[1]", "[]", "65536", "1,65536", "99999,1", "−", "nil", "0-", "-0", "1-", "1-2", "1,2,3,4,5,6,65536",
	} {
		list = append(list, wordCase{word, false})
	}
	return list
}

// wantWord asks of a line that is made with a word whether it is one.
func wantWord(t *testing.T, c wordCase, line string) {
	t.Helper()
	w := knownWorld(6, 9)
	if !c.good {
		wantNoLine(t, line)
		return
	}
	if r := wantLine(t, w, line); r.Code != impl.OK || r.Said == "" {
		t.Errorf("%q: %d", line, r.Code)
	}
	wantScriptResult(t, line, wantLine(t, w, "crash 0 "+line), impl.ScriptResult{World: w, Said: "back"})
}

// Each place of a number in a line, with each word that may be one. An operation may have a fault all the same: the Index and the Term of an entry keep to narrower bounds.
func TestNumbersOfLines(t *testing.T) {
	for _, c := range wordsForNumbers() {
		for _, line := range []string{"hard # 1", "hard 7 #", "read #", "compact # -", "compact # 1,2", "install # 5 -", "install 9 # -", "append 7 # 5 -"} {
			wantWord(t, c, strings.Replace(line, "#", c.word, 1))
		}
		number, _ := strconv.ParseInt(c.word, 10, 64)
		wantWord(t, wordCase{c.word, c.good && number <= 9998}, "append "+c.word+" 5 5 -")
		wantWord(t, wordCase{c.word, c.good && number >= 1 && number <= 999}, "append 7 5 "+c.word+" -")
	}
}

// The number of steps is one as well; where it is one it may still be too great.
func TestNumbersOfSteps(t *testing.T) {
	w := knownWorld(6, 9)
	for _, c := range wordsForNumbers() {
		for _, o := range []string{"hard 7 1", "read 3", "append 7 5 5 1,2", "compact 5 -", "install 9 6 7"} {
			code := int64(impl.ErrText)
			if c.good {
				number, _ := strconv.ParseInt(c.word, 10, 64)
				op, _ := plainOpIn(o)
				code = notSo(number > plainStepsOf(w, op).Value, impl.ErrRange)
			}
			r := wantLine(t, w, "crash "+c.word+" "+o)
			if r.Code != code || code == impl.OK && r.Said != "back" {
				t.Errorf("%q: %v", c.word, r)
			}
		}
	}
}

func TestListsOfLines(t *testing.T) {
	for _, c := range wordsForLists() {
		for _, line := range []string{"append 7 5 5 #", "compact 5 #", "install 9 6 #"} {
			wantWord(t, c, strings.Replace(line, "#", c.word, 1))
		}
	}
	for n, want := range map[int][]bool{1: {true, true}, 6: {true, true}, 7: {false, true}, 40: {false, true}, 41: {false, false}, 300: {false, false}, 2000: {false, false}} {
		word := plainCommas(same(5, n))
		wantWord(t, wordCase{word, want[0]}, "append 7 5 5 "+word)
		wantWord(t, wordCase{word, want[1]}, "compact 5 "+word)
		wantWord(t, wordCase{word, want[1]}, "install 9 6 "+word)
	}
}

// Each kind of line with each of its words left out, said twice, or followed by one more.
func TestHowManyWordsALineHas(t *testing.T) {
	for _, line := range []string{"hard 7 1", "append 7 5 5 -", "append 7 5 5 1,2", "compact 5 -", "compact 5 1,2", "install 9 6 -", "install 9 6 1", "read 5"} {
		wantWord(t, wordCase{line, true}, line)
		words := strings.Split(line, " ")
		for i := range words {
			wantNoLine(t, strings.Join(slices.Delete(slices.Clone(words), i, i+1), " "))
			wantNoLine(t, strings.Join(slices.Insert(slices.Clone(words), i, words[i]), " "))
			if i > 0 {
				wantNoLine(t, strings.Join(words[:i], " "))
			}
		}
		for _, more := range []string{"0", "1", "-", "1,2", "x", "tidy", "show", "read 5", line} {
			wantNoLine(t, line+" "+more)
		}
	}
	for _, line := range []string{"tidy", "show"} {
		for _, more := range []string{"0", "1", "-", "x", "tidy", "show", "read 5"} {
			for _, w := range []impl.World{impl.NewWorld(4).World, knownWorld(6, 9)} {
				wantScriptCode(t, line, wantLine(t, w, line+" "+more), impl.ErrText)
				wantScriptCode(t, line, wantLine(t, w, more+" "+line), impl.ErrText)
			}
		}
	}
	for _, line := range []string{"crash", "crash 0", "crash 3", "crash -", "crash hard 7 1", "crash 0 tidy", "crash 0 show", "crash 0 crash 0 hard 7 1", "crash 0 0 hard 7 1", "crash 0 hard 7 1 0", "hard 7 1 crash 0", "0 crash hard 7 1", "crash x hard 7 1"} {
		wantNoLine(t, line)
	}
}

// Names differ by one letter, by great and small ones, by one more or one less.
func TestNamesOfLines(t *testing.T) {
	lines := []string{"hard 7 1", "append 7 5 5 -", "compact 5 1", "install 9 6 -", "read 5", "crash 0 read 5", "tidy", "show"}
	w := knownWorld(6, 9)
	for _, line := range lines {
		if r := wantLine(t, w, line); r.Code != impl.OK {
			t.Errorf("%s: %d", line, r.Code)
		}
		name, rest, _ := strings.Cut(line, " ")
		others := []string{strings.ToUpper(name), name + name, name + "s", "x" + name, name + ":", name + ".", "\"" + name + "\"", name + "\t", name + "\x00", "\x00" + name, name + "\u00a0", "!" + name, ""}
		for i := range name {
			others = append(others, name[:i]+name[i+1:], name[:i]+"x"+name[i+1:], name[:i]+strings.ToUpper(name[i:i+1])+name[i+1:], name[:i]+" "+name[i:])
		}
		for _, other := range append(others, "term", "snap", "entry", "ok", "no", "back", "!", "append1", "1", "-") {
			if other = strings.TrimSpace(other + " " + rest); other != line && other != strings.TrimSpace(rest) && other != " "+line {
				wantScriptCode(t, other, wantLine(t, w, other), impl.ErrText)
			}
		}
	}
	for _, a := range lines {
		for _, b := range lines {
			name, _, _ := strings.Cut(a, " ")
			_, rest, _ := strings.Cut(b, " ")
			wantLine(t, w, name+" "+rest)
		}
	}
}

// A line feed at each place of each line, the first and the last as well, is no line, whatever is left without it.
func TestLinesWithALineFeed(t *testing.T) {
	for _, line := range []string{"", " ", "hard 7 1", "append 7 5 5 1,2", "compact 5 -", "install 9 6 -", "read 5", "crash 2 hard 7 1", "tidy", "show"} {
		for i := range len(line) + 1 {
			for _, w := range []impl.World{impl.NewWorld(4).World, knownWorld(6, 9)} {
				for _, feed := range []string{"\n", " \n", "\n ", "\n\n", "\r\n", " \n "} {
					wantScriptCode(t, line, wantLine(t, w, line[:i]+feed+line[i:]), impl.ErrText)
				}
				if i < len(line) {
					wantScriptCode(t, line, wantLine(t, w, line[:i]+"\n"+line[i+1:]), impl.ErrText)
				}
			}
		}
	}
}

// Each byte ahead of, in and behind each line: 32 alone does not count, and that just beside words.
func TestOtherBytesInLines(t *testing.T) {
	w := knownWorld(6, 9)
	for b := range 256 {
		x := string([]byte{byte(b)})
		wantLine(t, w, x)
		for _, line := range []string{"hard 7 1", "compact 5 -", "read 5", "tidy", "show", "crash 0 read 5"} {
			for i := range len(line) + 1 {
				r := wantLine(t, w, line[:i]+x+line[i:])
				if beside := i == 0 || i == len(line) || line[i-1] == ' ' || line[i] == ' '; b == 32 && beside && r.Code != impl.OK {
					t.Errorf("%q at %d of %q: %d", x, i, line, r.Code)
				}
				if (b < 32 || b > 126) && r.Code != impl.ErrText {
					t.Errorf("%q at %d of %q: %d", x, i, line, r.Code)
				}
			}
		}
	}
}

func TestLinesOfNoWords(t *testing.T) {
	for _, w := range []impl.World{impl.NewWorld(4).World, knownWorld(6, 0), knownWorld(6, 9), knownWorld(65000, 24)} {
		for _, line := range []string{"", " ", "  ", strings.Repeat(" ", 1200), strings.Repeat(" ", 5000)} {
			wantScriptResult(t, "no words", impl.StepScript(w, line), impl.ScriptResult{World: w})
		}
	}
}

// An operation that has a fault is none, though its words look like one.
func TestLinesOfOperationsWithAFault(t *testing.T) {
	seven, many := plainCommas(run(1, 7)), plainCommas(run(1, 41))
	for _, line := range []string{
		"append 9999 5 5 -", "append 99999 5 5 -", "append 7 5 0 -", "append 7 5 1000 -", "append 7 5 5 " + seven, "append 7 5 5 65536", "append 7 5 5 1,99999",
		"compact 5 " + many, "compact 5 65536", "compact 5 1,2,99999", "install 9 6 " + many, "install 9 6 65536", "install 99999 99999 99999",
	} {
		wantNoLine(t, line)
	}
	for line, reply := range map[string]int64{
		"append 9998 5 5 -": impl.ErrNone, "append 7 5 999 -": impl.ErrForm, "hard 99999 1": impl.ErrRange, "hard 7 99999": impl.ErrRange, "hard 1000 0": impl.ErrRange, "hard 5 2": impl.ErrOld,
		"compact 99999 -": impl.ErrNone, "compact 0 -": impl.ErrOld, "install 0 6 -": impl.ErrRange, "install 10000 6 -": impl.ErrRange, "install 9 0 -": impl.ErrRange, "install 9 99999 -": impl.ErrRange,
		"read 99999": impl.ErrNone, "read 0": impl.ErrOld, "read 8": impl.ErrNone, "append 7 99999 5 -": impl.ErrForm, "append 7 4 5 -": impl.ErrState, "append 2 2 2 -": impl.ErrOld,
	} {
		w := knownWorld(6, 9)
		wantScriptResult(t, line, wantLine(t, w, line), impl.ScriptResult{World: w, Said: fmt.Sprint("no ", reply)})
		wantScriptResult(t, line, wantLine(t, w, "crash 0 "+line), impl.ScriptResult{World: w, Said: "back"})
		wantScriptCode(t, line, wantLine(t, w, "crash 1 "+line), impl.ErrRange)
	}
}

// faultyWorlds have the code that stands beside each.
func faultyWorlds() map[int64][]impl.World {
	text, other := knownWorld(6, 9), knownWorld(6, 9)
	text.Disk.Blocks[26+23], other.Raft.Vote = run(1, 3), 3
	low, many, words := knownWorld(6, 9), knownWorld(6, 9), knownWorld(6, 9)
	low.Raft.Term, many.Raft.Snap, words.Disk.Blocks[60] = -1, same(0, 41), []int64{65536}
	return map[int64][]impl.World{
		impl.ErrForm:  {{}, {Disk: emptyDisk(65)}, cachedWorld(1), cachedWorld(200)},
		impl.ErrNone:  {{Disk: emptyDisk(66)}, {Disk: emptyDisk(66), Raft: knownStore()}},
		impl.ErrText:  {text},
		impl.ErrState: {other, {Disk: knownWorld(6, 9).Disk}, {Disk: formatted(4), Raft: knownStore()}},
		impl.ErrRange: {low, words, {Raft: extremeStore(math.MaxInt64)}, {Raft: impl.Raft{Term: 1000}}},
		impl.ErrMany:  {many, cachedWorld(201), {Disk: emptyDisk(71)}},
	}
}

// The fault of the world comes ahead of all that is wrong with a line or a text.
func TestScriptsAskTheWorldFirst(t *testing.T) {
	lines := []string{"", " ", "\n", "hard 7 1", "hard 7", "hard 7 1\n", "read 5", "read 99", "crash 0 read 5", "crash 99 hard 7 1", "tidy", "show", "x", "append 9999 5 5 -", "\xff", strings.Repeat("x", 2000)}
	texts := []string{strings.Repeat("\n", 40), strings.Repeat("\n", 41), strings.Repeat(" ", 1201), strings.Repeat("\n", 1300), "hard 7 1\nshow\n"}
	for code, worlds := range faultyWorlds() {
		for _, w := range worlds {
			if got := impl.WorldFault(w); got != code {
				t.Fatalf("WorldFault %d, want %d", got, code)
			}
			for _, line := range lines {
				wantScriptCode(t, line, impl.StepScript(w, line), code)
				wantScriptResult(t, line, impl.StepScript(w, line), plainStepScript(w, line))
			}
			for _, text := range append(lines, texts...) {
				wantScriptCode(t, text, impl.RunScript(w, text), code)
				wantScriptResult(t, text, impl.RunScript(w, text), plainRunScript(w, text))
			}
		}
	}
	for _, c := range raftCases() {
		if c.code != impl.OK {
			w := impl.World{Disk: knownWorld(6, 3).Disk, Raft: c.r}
			wantScriptCode(t, c.name, impl.StepScript(w, "x"), c.code)
			wantScriptCode(t, c.name, impl.RunScript(w, strings.Repeat("x", 1201)), c.code)
		}
	}
}

// Where there are no more steps to be had each line tells the code of what it does; lines that are none come first.
func TestCodesOfWhatALineDoes(t *testing.T) {
	for _, seq := range []int64{64998, 64999, 65000} {
		for _, n := range []int{0, 9, 22, 24} {
			w := knownWorld(seq, n)
			for _, line := range []string{"hard 7 1", "hard 6 2", "hard 5 2", "append 7 5 5 1,2", "compact 5 1", "install 9 6 -", "read 5", "read 99", "tidy", "show", "", "x", "hard 7 1 1", "append 9999 5 5 -"} {
				wantLine(t, w, line)
				for _, steps := range []string{"0", "1", "3", "4", "5", "30", "99999", "100000"} {
					wantLine(t, w, "crash "+steps+" "+line)
				}
			}
		}
	}
	late := knownWorld(65000, 9)
	for _, line := range []string{"hard 7 1", "crash 0 hard 7 1", "crash 99999 hard 7 1", "tidy", "append 7 5 5 -", "compact 5 -", "install 9 6 -"} {
		wantScriptCode(t, line, wantLine(t, late, line), impl.ErrState)
	}
	for _, line := range []string{"crash 100000 hard 7 1", "hard 7", "tidy 1", "append 9999 5 5 -", "crash 0 append 9999 5 5 -"} {
		wantScriptCode(t, line, wantLine(t, late, line), impl.ErrText)
	}
	for line, said := range map[string]string{"hard 6 2": "ok", "read 5": "ok 3", "read 99": "no 4", "hard 5 2": "no 6", "crash 0 hard 6 2": "back", "crash 0 read 99": "back"} {
		wantScriptResult(t, line, wantLine(t, late, line), impl.ScriptResult{World: late, Said: said})
	}
	wantScriptResult(t, "a script", impl.RunScript(late, "hard 7 1\ntidy\nread 5\n"), impl.ScriptResult{World: late, Said: "! 10\n! 10\nok 3\n"})
}

// Steps from none to one too many, of each kind of operation.
func TestStepsOfACrashLine(t *testing.T) {
	for _, w := range []impl.World{knownWorld(6, 0), knownWorld(6, 9), knownWorld(6, 24), impl.NewWorld(4).World} {
		for _, line := range []string{"hard 7 1", "hard 6 2", "append 7 5 5 1,2", "append 0 0 1 -", "compact 5 1,2,3,4,5,6,7,8,9,10", "install 9 6 -", "read 5", "read 0"} {
			op, _ := plainOpIn(line)
			all := plainStepsOf(w, op).Value
			for steps := range all + 1 {
				if r := wantLine(t, w, fmt.Sprintf("crash %d %s", steps, line)); r.Code != impl.OK || r.Said != "back" {
					t.Errorf("%d of %q: %v", steps, line, r)
				}
			}
			for _, steps := range []int64{all + 1, all + 2, 60, 120, 9999, 99999} {
				wantScriptCode(t, line, wantLine(t, w, fmt.Sprintf("crash %d %s", steps, line)), impl.ErrRange)
			}
		}
	}
}

func TestOpTextOfEachOperation(t *testing.T) {
	for _, c := range opCases() {
		r := impl.OpText(c.op)
		wantTextResult(t, c.name, r, plainOpText(c.op))
		if c.code != impl.OK && (r.Code != c.code || r.Text != "") {
			t.Errorf("%s: %v, want %d", c.name, r, c.code)
		}
	}
	for _, c := range []struct {
		op   impl.Op
		text string
		code int64
	}{
		{hardOp(0, 0), "hard 0 0", 0},
		{hardOp(2, 1), "hard 2 1", 0},
		{hardOp(99999, 99999), "hard 99999 99999", 0},
		{hardOp(100000, 0), "", impl.ErrRange},
		{hardOp(0, 100000), "", impl.ErrRange},
		{hardOp(-1, 0), "", impl.ErrRange},
		{hardOp(0, -1), "", impl.ErrRange},
		{appendOp(0, 0, entryOf(1, 1, 7, 8)), "append 0 0 1 7,8", 0},
		{appendOp(1, 1, entryOf(2, 2)), "append 1 1 2 -", 0},
		{appendOp(9998, 99999, entryOf(9999, 999, 0)), "append 9998 99999 999 0", 0},
		{appendOp(1, 1), "", impl.ErrMany},
		{appendOp(-1, 100000), "", impl.ErrMany},
		{appendOp(1, 1, hollowLog(2, 2)...), "", impl.ErrMany},
		{appendOp(-1, 1, hollowLog(2, 2)...), "", impl.ErrMany},
		{appendOp(1, 1, hollowLog(2, 4)...), "", impl.ErrMany},
		{appendOp(1, 1, entryOf(1, 1)), "", impl.ErrForm},
		{appendOp(1, 1, entryOf(3, 1)), "", impl.ErrForm},
		{appendOp(99999, 1, entryOf(1, 1)), "", impl.ErrForm},
		{appendOp(100000, 1, entryOf(1, 1)), "", impl.ErrRange},
		{appendOp(3, 100000, entryOf(1, 1)), "", impl.ErrRange},
		{appendOp(-1, 1, entryOf(1, 1)), "", impl.ErrRange},
		{appendOp(math.MaxInt64, 1, entryOf(1, 1)), "", impl.ErrRange},
		{appendOp(math.MinInt64, 1, entryOf(1, 1)), "", impl.ErrRange},
		{appendOp(1, -1, entryOf(2, 1)), "", impl.ErrRange},
		{appendOp(-1, 1, entryOf(0, 1)), "", impl.ErrRange},
		{appendOp(9999, 1, entryOf(10000, 1)), "", impl.ErrRange},
		{compactOp(5), "compact 5 -", 0},
		{compactOp(99999, 1, 65535, 0), "compact 99999 1,65535,0", 0},
		{compactOp(100000), "", impl.ErrRange},
		{compactOp(-1), "", impl.ErrRange},
		{compactOp(-1, same(0, 41)...), "", impl.ErrMany},
		{installOp(5, 2, 1, 2), "install 5 2 1,2", 0},
		{installOp(99999, 99999), "install 99999 99999 -", 0},
		{installOp(100000, 2), "", impl.ErrRange},
		{installOp(5, 100000), "", impl.ErrRange},
		{installOp(5, -1), "", impl.ErrRange},
		{readOp(0), "read 0", 0},
		{readOp(99999), "read 99999", 0},
		{readOp(100000), "", impl.ErrRange},
		{readOp(-1), "", impl.ErrRange},
		{impl.Op{}, "", impl.ErrForm},
		{impl.Op{Kind: 6}, "", impl.ErrForm},
		{impl.Op{Kind: 6, Index: 100000}, "", impl.ErrForm},
		{impl.Op{Kind: 5, Index: -1, Vote: 1}, "", impl.ErrForm},
		{impl.Op{Kind: 2, Index: 100000, Term: 1, Data: []int64{0}}, "", impl.ErrForm},
	} {
		wantTextResult(t, "OpText", impl.OpText(c.op), impl.TextResult{Code: c.code, Text: c.text})
		wantTextResult(t, "the plain OpText", plainOpText(c.op), impl.TextResult{Code: c.code, Text: c.text})
	}
}

// Each number of each kind, below, within and above what may be written.
func TestOpTextAsksItsNumbers(t *testing.T) {
	for _, c := range numberCases(0, 99999) {
		for _, o := range []impl.Op{hardOp(c.number, 0), hardOp(0, c.number), compactOp(c.number, 1), installOp(c.number, 1), installOp(1, c.number, 1), readOp(c.number), appendOp(3, c.number, entryOf(4, 1))} {
			r := impl.OpText(o)
			wantCode(t, c.name, r.Code, r.Text == "", c.code)
			wantTextResult(t, c.name, r, plainOpText(o))
		}
		o := appendOp(c.number, 3, entryOf(4, 1))
		r := impl.OpText(o)
		wantCode(t, c.name, r.Code, r.Text == "", firstCode(c.code, impl.ErrForm))
		wantTextResult(t, c.name, r, plainOpText(o))
	}
}

func TestOpTextOfMany(t *testing.T) {
	rnd := rand.New(rand.NewSource(172))
	codes := map[int64]int{}
	for range 40000 {
		o := randomOp(rnd, randomStore(rnd))
		if o.Kind == impl.OpAppend && len(o.List) > 1 && rnd.Intn(2) == 0 {
			o.List = o.List[:1]
		}
		for range rnd.Intn(3) {
			spoilOp(rnd, &o)
		}
		r := impl.OpText(o)
		wantTextResult(t, "OpText", r, plainOpText(o))
		codes[r.Code]++
	}
	for _, code := range []int64{impl.OK, impl.ErrForm, impl.ErrMany, impl.ErrRange} {
		if codes[code] < 500 {
			t.Errorf("code %d came just %d times", code, codes[code])
		}
	}
}

func TestRaftTextAsksTheStore(t *testing.T) {
	for _, c := range raftCases() {
		r := impl.RaftText(c.r)
		wantCode(t, c.name, r.Code, r.Text == "", c.code)
		wantTextResult(t, c.name, r, plainRaftText(c.r))
	}
	rnd := rand.New(rand.NewSource(173))
	faults := 0
	for range 20000 {
		r := randomStore(rnd)
		wantTextResult(t, "a store", impl.RaftText(r), plainRaftText(r))
		spoilStore(rnd, &r)
		wantTextResult(t, "a store that may have a fault", impl.RaftText(r), plainRaftText(r))
		faults += int(notSo(storeFault(r) != impl.OK, 1))
	}
	if faults < 2000 {
		t.Errorf("just %d faults", faults)
	}
}

// How many bytes and lines a text may have, in worlds without a fault: all of it is asked ahead of what the lines are.
func TestHowLongAScriptIs(t *testing.T) {
	for _, w := range []impl.World{impl.NewWorld(4).World, knownWorld(6, 9)} {
		for n, code := range map[int]int64{0: impl.OK, 1: impl.OK, 39: impl.OK, 40: impl.OK, 41: impl.ErrMany, 42: impl.ErrMany, 300: impl.ErrMany} {
			for _, line := range []string{"", " ", "x", "tidy"} {
				text := strings.Repeat(line+"\n", n)
				wantScriptCode(t, "lines, each ended", scriptCodeAlone(t, w, text), code)
				more := notSo(n >= 40, impl.ErrMany)
				wantScriptCode(t, "one more that is not ended", scriptCodeAlone(t, w, text+"x"), more)
				wantScriptCode(t, "one more of a blank", scriptCodeAlone(t, w, text+" "), more)
				wantScriptCode(t, "one more that is empty and ended", scriptCodeAlone(t, w, text+"\n"), more)
			}
		}
		for n, code := range map[int]int64{1: impl.OK, 1199: impl.OK, 1200: impl.OK, 1201: impl.ErrMany, 1202: impl.ErrMany, 100000: impl.ErrMany} {
			for _, x := range []string{" ", "x", "\xff", "\x00", "-"} {
				wantScriptCode(t, "bytes", scriptCodeAlone(t, w, strings.Repeat(x, n)), code)
				wantScriptCode(t, "bytes and a line feed", scriptCodeAlone(t, w, strings.Repeat(x, n-1)+"\n"), code)
				wantScriptCode(t, "a line feed and bytes", scriptCodeAlone(t, w, "\n"+strings.Repeat(x, n-1)), code)
			}
		}
	}
	wide := strings.Repeat("\u3000", 400)
	w := knownWorld(6, 9)
	wantScriptCode(t, "1200 bytes that are fewer letters", scriptCodeAlone(t, w, wide), impl.OK)
	wantScriptCode(t, "1202 bytes that are fewer letters", scriptCodeAlone(t, w, wide+"é"), impl.ErrMany)
	wantScriptCode(t, "many carriage returns", scriptCodeAlone(t, w, strings.Repeat("\r", 50)), impl.OK)
}

// scriptCodeAlone holds a script against the plain one, and leaves the code of it alone.
func scriptCodeAlone(t *testing.T, w impl.World, text string) impl.ScriptResult {
	t.Helper()
	r := impl.RunScript(w, text)
	wantScriptResult(t, "RunScript", r, plainRunScript(w, text))
	if r.Code == impl.OK {
		return impl.ScriptResult{}
	}
	return r
}

// Lines at random, some of them spoilt by one byte or one word, in worlds that may have a fault.
func TestStepScriptOfMany(t *testing.T) {
	rnd := rand.New(rand.NewSource(174))
	codes := map[int64]int{}
	for range 5000 {
		w := grownWorld(rnd)
		if rnd.Intn(8) == 0 {
			spoilWorld(rnd, &w)
		}
		line := randomLine(rnd, w.Raft)
		for range rnd.Intn(3) {
			line = spoilLine(rnd, line)
		}
		r := impl.StepScript(w, line)
		wantScriptResult(t, strconv.Quote(line), r, plainStepScript(w, line))
		codes[r.Code]++
	}
	for code, least := range map[int64]int{impl.OK: 1000, impl.ErrText: 1000, impl.ErrRange: 100, impl.ErrForm: 20} {
		if codes[code] < least {
			t.Errorf("code %d came just %d times", code, codes[code])
		}
	}
}

// randomLine is one of what there is, as long as nothing is spoilt.
func randomLine(rnd *rand.Rand, r impl.Raft) string {
	o := busyOp(rnd, r)
	for plainOpTextFault(o) != impl.OK {
		o = busyOp(rnd, r)
	}
	text := plainOpText(o).Text
	switch rnd.Intn(10) {
	case 0:
		return "tidy"
	case 1:
		return "show"
	case 2:
		return strings.Repeat(" ", rnd.Intn(3))
	case 3, 4:
		return fmt.Sprintf("crash %d %s", rnd.Intn(9), text)
	}
	return text
}

func spoilLine(rnd *rand.Rand, line string) string {
	at := rnd.Intn(len(line) + 1)
	end := min(at+1, len(line))
	x := string([]byte{"  \n\t-,019axdr"[rnd.Intn(13)]})
	words := plainWords(line)
	switch rnd.Intn(5) {
	case 0:
		return line[:at] + x + line[at:]
	case 1:
		return line[:at] + line[end:]
	case 2:
		return line[:at] + x + line[end:]
	case 3:
		return strings.Join(words, "  ") + " "
	}
	if len(words) > 0 {
		words[rnd.Intn(len(words))] = []string{"-", "0", "1,2", "100000", "hard", "read"}[rnd.Intn(6)]
	}
	return strings.Join(words, " ")
}
