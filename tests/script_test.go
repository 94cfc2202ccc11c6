package tests

import (
	"fmt"
	"math/rand"
	"slices"
	"strings"
	"testing"

	"loop.example/g00311/impl"
)

// Promise 17: an operation that is written as a line does what it does; a script that is cut behind a line feed does in two parts what it does in one.

func TestAScriptByHand(t *testing.T) {
	two := impl.Raft{Term: 2, Vote: 1, Log: []impl.Entry{entryOf(1, 1, 7, 8), entryOf(2, 2)}}
	one := impl.Raft{Term: 2, Vote: 1, SnapIndex: 1, SnapTerm: 1, Snap: []int64{5}, Log: []impl.Entry{entryOf(2, 2)}}
	last := impl.Raft{Term: 2, Vote: 1, SnapIndex: 9, SnapTerm: 2}
	cases := []struct {
		line string
		code int64
		said string
		raft impl.Raft
	}{
		{"show", 0, "term 0 0\nsnap 0 0 -\n", impl.Raft{}},
		{"read 0", 0, "ok 0", impl.Raft{}},
		{"crash 3 hard 2 1", 0, "back", impl.Raft{}},
		{"hard 2 1", 0, "ok", impl.Raft{Term: 2, Vote: 1}},
		{"hard 2 1", 0, "ok", impl.Raft{Term: 2, Vote: 1}},
		{"append 0 0 1 7,8", 0, "ok", impl.Raft{Term: 2, Vote: 1, Log: two.Log[:1]}},
		{"  append   1 1 2    - ", 0, "ok", two},
		{"", 0, "", two},
		{"read 2", 0, "ok 2", two},
		{"read 3", 0, "no 4", two},
		{"hard 2 3", 0, "no 6", two},
		{"hard 02 3", impl.ErrText, "", two},
		{"wink", impl.ErrText, "", two},
		{"Tidy", impl.ErrText, "", two},
		{"show\n", impl.ErrText, "", two},
		{"crash 6 compact 1 5", 0, "back", two},
		{"crash 8 compact 1 5", impl.ErrRange, "", two},
		{"show", 0, "term 2 1\nsnap 0 0 -\nentry 1 1 7,8\nentry 2 2 -\n", two},
		{"crash 7 compact 1 5", 0, "back", one},
		{"tidy", 0, "ok", one},
		{"show", 0, "term 2 1\nsnap 1 1 5\nentry 2 2 -\n", one},
		{"   ", 0, "", one},
		{"read 0", 0, "no 6", one},
		{"append 9999 1 1 -", impl.ErrText, "", one},
		{"install 9 2 -", 0, "ok", last},
		{"show", 0, "term 2 1\nsnap 9 2 -\n", last},
	}
	w, all, script := impl.NewWorld(4).World, "", ""
	for _, c := range cases {
		r := wantLine(t, w, c.line)
		if r.Code != c.code || r.Said != c.said {
			t.Fatalf("%q: %d, %q", c.line, r.Code, r.Said)
		}
		if r.Code == impl.OK {
			w = r.World
			all += strings.TrimSuffix(r.Said, "\n") + strings.Repeat("\n", min(len(r.Said), 1))
		} else if strings.Contains(c.line, "\n") {
			continue
		} else {
			all += fmt.Sprintf("! %d\n", r.Code)
		}
		wantRaft(t, c.line, impl.RaftResult{Raft: w.Raft}, c.raft)
		script += c.line + "\n"
	}
	wantScriptResult(t, "all in one", impl.RunScript(impl.NewWorld(4).World, script), impl.ScriptResult{World: w, Said: all})
	wantScriptResult(t, "the last one not ended", impl.RunScript(impl.NewWorld(4).World, strings.TrimSuffix(script, "\n")), impl.ScriptResult{World: w, Said: all})
}

// wantSpoken asks that the words of an operation, with one blank between them or with more beside them, do what OpWorld does of it.
func wantSpoken(t *testing.T, w impl.World, o impl.Op) impl.ScriptResult {
	t.Helper()
	text := impl.OpText(o)
	if text.Code != impl.OK {
		t.Fatalf("%v: OpText %d", o, text.Code)
	}
	if read, there := plainOpIn(text.Text); !there || !sameOps([]impl.Op{read}, []impl.Op{o}) {
		t.Fatalf("%q is not what %v is", text.Text, o)
	}
	done := impl.OpWorld(w, o)
	want := impl.ScriptResult{Code: done.Code, World: done.World}
	switch {
	case done.Reply != impl.OK:
		want.Said = fmt.Sprint("no ", done.Reply)
	case done.Code == impl.OK && o.Kind == impl.OpRead:
		want.Said = fmt.Sprint("ok ", done.Value)
	case done.Code == impl.OK:
		want.Said = "ok"
	}
	wide := "  " + strings.ReplaceAll(text.Text, " ", "   ") + " "
	for _, line := range []string{text.Text, wide, text.Text + " ", " " + text.Text} {
		wantScriptResult(t, line, impl.StepScript(w, line), want)
	}
	if len(impl.WordsOf(text.Text).Words) != strings.Count(text.Text, " ")+1 || !slices.Equal(impl.WordsOf(text.Text).Words, impl.WordsOf(wide).Words) {
		t.Fatalf("%q: %q", text.Text, impl.WordsOf(wide).Words)
	}
	return want
}

// Each small store with a third of the small operations that can be written.
func TestWhatIsWrittenDoesWhatItDoes(t *testing.T) {
	replies := map[string]int{}
	for i, r := range smallStores() {
		w := worldOf(r)
		for k, o := range smallOps() {
			if plainOpTextFault(o) == impl.OK && (k+i)%3 == 0 {
				replies[wantSpoken(t, w, o).Said]++
			}
		}
	}
	for _, said := range []string{"ok", "ok 0", "ok 1", "ok 3", "no 3", "no 4", "no 6", "no 10"} {
		if replies[said] < 10 {
			t.Errorf("%q was said just %d times", said, replies[said])
		}
	}
}

// Worlds of each length of the log, up to the last Seq, with operations of each sort.
func TestWhatIsWrittenDoesWhatItDoesInEachLog(t *testing.T) {
	codes := map[int64]int{}
	for _, seq := range []int64{6, 64999, 65000} {
		for n := range 25 {
			w := knownWorld(seq, n)
			for _, o := range opsOfEachSort() {
				if plainOpTextFault(o) == impl.OK {
					codes[wantSpoken(t, w, o).Code]++
				}
			}
		}
	}
	if codes[impl.OK] < 500 || codes[impl.ErrState] < 100 {
		t.Error(codes)
	}
	for _, r := range edgeStores() {
		w := worldOf(r)
		last := lastIndex(r)
		ops := []impl.Op{readOp(last), readOp(r.SnapIndex), readOp(0), hardOp(999, 9), hardOp(r.Term, r.Vote), compactOp(last, same(65535, 40)...), installOp(9999, r.Term, run(0, 40)...)}
		if term := knownTerms(r)[last]; last < 9999 {
			ops = append(ops, appendOp(last, term, entryOf(last+1, max(r.Term, 1), same(65535, 6)...)))
		}
		for _, o := range ops {
			wantSpoken(t, w, o)
		}
	}
}

func TestManyOperationsThatAreWritten(t *testing.T) {
	rnd := rand.New(rand.NewSource(175))
	written := map[int64]int{}
	for range 8 {
		w := impl.NewWorld(1 + rnd.Int63n(9)).World
		for range 90 {
			o := busyOp(rnd, w.Raft)
			if plainOpTextFault(o) != impl.OK {
				continue
			}
			w = wantSpoken(t, w, o).World
			written[o.Kind]++
			if code := impl.WorldFault(w); code != impl.OK {
				t.Fatalf("%v: a fault %d", o, code)
			}
		}
	}
	for kind := range int64(5) {
		if written[kind+1] < 20 {
			t.Errorf("kind %d was written just %d times", kind+1, written[kind+1])
		}
	}
}

// A crash with some steps opens what CrashWorld left behind; of what was not flushed the first halves are there.
func TestACrashLineOpensWhatIsThere(t *testing.T) {
	ahead, behind := 0, 0
	for _, n := range []int{0, 9, 22, 24} {
		for _, seq := range []int64{6, 7} {
			w := knownWorld(seq, n)
			for _, o := range opsOfEachSort() {
				if plainOpTextFault(o) != impl.OK {
					continue
				}
				all, done := impl.StepsOf(w, o).Value, impl.OpWorld(w, o).World
				for steps := range all + 1 {
					r := impl.StepScript(w, fmt.Sprintf("crash %d %s", steps, impl.OpText(o).Text))
					opened := impl.OpenDisk(impl.CrashWorld(w, o, steps, slices.Repeat([]int64{impl.KeepFirst}, 60)).Disk)
					wantScriptResult(t, "crash", r, impl.ScriptResult{World: opened.World, Said: "back"})
					if steps == all {
						wantScriptResult(t, "all steps", r, impl.ScriptResult{World: done, Said: "back"})
						behind++
					} else {
						wantRaft(t, "not all steps", impl.RaftResult{Raft: r.World.Raft}, w.Raft)
						ahead++
					}
				}
			}
		}
	}
	if ahead < 500 || behind < 100 {
		t.Error(ahead, behind)
	}
}

// Where steps are cut off ahead of a flush all first halves are there, however many they are: those of a log that is installed and of an append behind it.
func TestACrashLineKeepsTheFirstHalves(t *testing.T) {
	most := 0
	for _, n := range []int{12, 20, 24} {
		r := sizedStore(11, 40, 5)
		w := impl.World{Disk: storeDisk(6, 20, n, r), Raft: r}
		o := compactOp(16, run(100, 40)...)
		for steps := range impl.StepsOf(w, o).Value + 1 {
			cut := impl.RunSteps(w.Disk, impl.PlanOp(w.Disk, o).Steps[:steps]).Disk
			most = max(most, len(cut.Cache))
			want := slices.Clone(cut.Blocks)
			for _, p := range cut.Cache {
				want[p.At] = tornByWord(want[p.At], p.Words, impl.KeepFirst)
			}
			got := impl.StepScript(w, fmt.Sprintf("crash %d %s", steps, impl.OpText(o).Text))
			if got.Code != impl.OK || !sameBlocks(got.World.Disk.Blocks, want) || len(got.World.Disk.Cache) != 0 {
				t.Fatalf("%d steps: %v", steps, got)
			}
		}
	}
	if most < 12 {
		t.Errorf("at most %d puts were not flushed", most)
	}
}

func TestTidyAndShow(t *testing.T) {
	for n := range 25 {
		for _, r := range []impl.Raft{{}, knownStore(), sizedStore(11, 40, 14)} {
			w := impl.World{Disk: storeDisk(9, 7, n, r), Raft: r}
			tidy := impl.StepScript(w, "tidy")
			wantScriptResult(t, "tidy", tidy, impl.ScriptResult{World: impl.TidyWorld(w).World, Said: "ok"})
			wantInt(t, "tidy", impl.RoomIn(tidy.World.Disk), impl.IntResult{Value: 24})
			wantScriptResult(t, "show", impl.StepScript(w, "show"), impl.ScriptResult{World: w, Said: impl.RaftText(r).Text})
			wantScriptResult(t, "show of a tidy one", impl.StepScript(tidy.World, " show "), impl.ScriptResult{World: tidy.World, Said: plainRaftText(r).Text})
		}
	}
}

func TestRaftTextByHand(t *testing.T) {
	for _, c := range []struct {
		r    impl.Raft
		text string
	}{
		{impl.Raft{}, "term 0 0\nsnap 0 0 -\n"},
		{impl.Raft{Vote: 9}, "term 0 9\nsnap 0 0 -\n"},
		{impl.Raft{Term: 999, Vote: 9}, "term 999 9\nsnap 0 0 -\n"},
		{impl.Raft{Term: 3, SnapIndex: 5, SnapTerm: 2}, "term 3 0\nsnap 5 2 -\n"},
		{impl.Raft{Term: 3, SnapIndex: 5, SnapTerm: 2, Snap: []int64{0}}, "term 3 0\nsnap 5 2 0\n"},
		{impl.Raft{Term: 3, SnapIndex: 9999, SnapTerm: 3, Snap: []int64{1, 65535, 10}}, "term 3 0\nsnap 9999 3 1,65535,10\n"},
		{impl.Raft{Term: 2, Vote: 1, Log: []impl.Entry{entryOf(1, 1, 7, 8), entryOf(2, 2)}}, "term 2 1\nsnap 0 0 -\nentry 1 1 7,8\nentry 2 2 -\n"},
		{impl.Raft{Term: 4, SnapIndex: 3, SnapTerm: 1, Snap: []int64{5}, Log: []impl.Entry{entryOf(4, 4, 0, 0, 1, 2, 3, 65535)}}, "term 4 0\nsnap 3 1 5\nentry 4 4 0,0,1,2,3,65535\n"},
		{impl.Raft{Snap: []int64{}, Log: []impl.Entry{}}, "term 0 0\nsnap 0 0 -\n"},
		{impl.Raft{Term: 4, Log: []impl.Entry{{Index: 1, Term: 4, Data: []int64{}}}}, "term 4 0\nsnap 0 0 -\nentry 1 4 -\n"},
	} {
		wantTextResult(t, "RaftText", impl.RaftText(c.r), impl.TextResult{Text: c.text})
	}
	for _, r := range append(edgeStores(), smallStores()...) {
		text := impl.RaftText(r)
		wantTextResult(t, "RaftText", text, plainRaftText(r))
		if strings.Count(text.Text, "\n") != 2+len(r.Log) || !strings.HasSuffix(text.Text, "\n") {
			t.Errorf("%q", text.Text)
		}
	}
}

// Two stores that differ by one thing alone are told apart.
func TestTextsTellStoresApart(t *testing.T) {
	known := impl.RaftText(knownStore()).Text
	for _, c := range otherStores() {
		if text := impl.RaftText(c.r); text.Code != impl.OK || text.Text == known {
			t.Errorf("%s: %v", c.name, text)
		}
	}
}

// What a script says, line by line, by hand.
func TestWhatAScriptSays(t *testing.T) {
	for text, said := range map[string]string{
		"": "", "\n": "", "\n\n\n": "", "  ": "", "  \n \n": "", "hard 2 1": "ok\n", "hard 2 1\n": "ok\n", "hard 2 1\n\n": "ok\n", "\nhard 2 1": "ok\n", "\n\n hard 2 1 \n\n": "ok\n",
		"x": "! 5\n", "x\n": "! 5\n", "x\n\ny": "! 5\n! 5\n", "x\nhard 2 1\nx": "! 5\nok\n! 5\n", "show": "term 0 0\nsnap 0 0 -\n", "show\nshow": "term 0 0\nsnap 0 0 -\nterm 0 0\nsnap 0 0 -\n",
		"show\n\nread 0\n": "term 0 0\nsnap 0 0 -\nok 0\n", "crash 9 hard 2 1\nshow": "! 3\nterm 0 0\nsnap 0 0 -\n", "crash 4 hard 2 1\nread 1\nread 0\nhard 1 1": "back\nno 4\nok 0\nno 6\n",
		"hard 2 1\r\nshow": "! 5\nterm 0 0\nsnap 0 0 -\n", "tidy\ntidy": "ok\nok\n", "hard 7 1\nhard 7 1 1\nhard 7 2\nhard 8 2\nshow": "ok\n! 5\nno 6\nok\nterm 8 2\nsnap 0 0 -\n",
	} {
		r := impl.RunScript(impl.NewWorld(4).World, text)
		wantScriptResult(t, text, r, plainRunScript(impl.NewWorld(4).World, text))
		if r.Code != impl.OK || r.Said != said {
			t.Errorf("%q: %d, %q, want %q", text, r.Code, r.Said, said)
		}
	}
}

// A line that has a code leaves the world as it was: what stands behind it does what it does without it.
func TestALineWithACodeLeavesTheWorld(t *testing.T) {
	wrong := []string{"x", "hard 7", "hard 07 1", "append 9999 1 1 -", "crash 9 read 5", "crash 99999 hard 9 1", "tidy 1", "show -", "compact 5 65536", "\t", "install 9 6", "crash 1 tidy"}
	good := []string{"hard 7 1", "append 7 5 7 1,2", "crash 5 compact 5 1", "compact 5 1,2", "read 6", "tidy", "show", "install 9 7 4"}
	plain := impl.RunScript(knownWorld(6, 9), strings.Join(good, "\n"))
	wantScriptResult(t, "without", plain, plainRunScript(knownWorld(6, 9), strings.Join(good, "\n")))
	for i, line := range wrong {
		code := int64(impl.ErrText)
		if i == 4 || i == 5 {
			code = impl.ErrRange
		}
		for at := range len(good) + 1 {
			text := strings.Join(slices.Insert(slices.Clone(good), at, line), "\n")
			ahead := impl.RunScript(knownWorld(6, 9), strings.Join(good[:at], "\n"))
			behind := impl.RunScript(ahead.World, strings.Join(good[at:], "\n"))
			r := impl.RunScript(knownWorld(6, 9), text)
			wantScriptResult(t, text, r, impl.ScriptResult{World: plain.World, Said: ahead.Said + fmt.Sprintf("! %d\n", code) + behind.Said})
			wantScriptResult(t, line, impl.RunScript(ahead.World, line), impl.ScriptResult{World: ahead.World, Said: fmt.Sprintf("! %d\n", code)})
		}
	}
}

// wantInTwoParts cuts a script behind each line feed; what its parts are may have one more or one less behind the last line.
func wantInTwoParts(t *testing.T, w impl.World, text string) impl.ScriptResult {
	t.Helper()
	all := impl.RunScript(w, text)
	wantScriptResult(t, text, all, plainRunScript(w, text))
	if all.Code != impl.OK {
		t.Fatalf("%q: %d", text, all.Code)
	}
	for i := range len(text) {
		if text[i] != '\n' {
			continue
		}
		first := impl.RunScript(w, text[:i+1])
		second := impl.RunScript(first.World, text[i+1:])
		if first.Code != impl.OK || second.Code != impl.OK || first.Said+second.Said != all.Said || !sameWorlds(second.World, all.World) {
			t.Fatalf("%q cut at %d: %q and %q, in one %q", text, i+1, first.Said, second.Said, all.Said)
		}
		wantScriptResult(t, "ahead of the line feed", impl.RunScript(w, text[:i]), first)
	}
	if code := impl.WorldFault(all.World); code != impl.OK {
		t.Fatalf("%q: a fault %d", text, code)
	}
	return all
}

func TestScriptsInTwoParts(t *testing.T) {
	for _, text := range []string{
		"\n", "\n\n\n", " \n \n", "hard 2 1\n", "\nhard 2 1", "hard 2 1\n\nshow\n\n", "x\ny\n", "x\nhard 2 1\nx\nshow", strings.Repeat("\n", 40), strings.Repeat("x\n", 40),
		strings.Repeat("show\n", 40), strings.Repeat("tidy\n", 39) + "tidy", strings.Repeat("\n", 39) + strings.Repeat("x", 1161), strings.Repeat("x", 1199) + "\n",
		"hard 2 1\nappend 0 0 1 7,8\nappend 1 1 2 -\nread 2\nhard 2 3\nwink\ncrash 3 compact 1 5\ncompact 1 5\ntidy\nshow\n",
	} {
		for _, w := range []impl.World{impl.NewWorld(4).World, knownWorld(6, 9), knownWorld(64995, 24), knownWorld(65000, 3)} {
			wantInTwoParts(t, w, text)
		}
	}
}

// Scripts at random of up to 40 lines, some of them spoilt, as long as there is room for them; most of the lines go with what those ahead did.
func TestManyScriptsInTwoParts(t *testing.T) {
	rnd := rand.New(rand.NewSource(176))
	said, lines := map[string]int{}, map[int]int{}
	for range 70 {
		w := grownWorld(rnd)
		text := randomScript(rnd, w)
		lines[min(len(plainLines(text))/20, 2)]++
		for _, line := range plainLines(wantInTwoParts(t, w, text).Said) {
			word, _, _ := strings.Cut(line, " ")
			said[word]++
		}
	}
	for _, word := range []string{"ok", "no", "back", "!", "term", "entry"} {
		if said[word] < 30 {
			t.Errorf("%q was said just %d times", word, said[word])
		}
	}
	if lines[0] == 0 || lines[1] == 0 || lines[2] == 0 {
		t.Error(lines)
	}
}

func randomScript(rnd *rand.Rand, w impl.World) string {
	text := ""
	for range 1 + rnd.Intn(45) {
		line := randomLine(rnd, w.Raft)
		if rnd.Intn(6) == 0 {
			line = strings.ReplaceAll(spoilLine(rnd, line), "\n", "")
		}
		next := text + line + "\n"
		if len(next) > 1200 || len(plainLines(next)) > 40 {
			continue
		}
		if r := plainStepScript(w, line); r.Code == impl.OK {
			w = r.World
		}
		text = next
	}
	if rnd.Intn(2) == 0 {
		return strings.TrimSuffix(text, "\n")
	}
	return text
}

// Line by line a script comes to what its lines come to one behind the other.
func TestAScriptLineByLine(t *testing.T) {
	rnd := rand.New(rand.NewSource(177))
	for range 60 {
		first := grownWorld(rnd)
		text := randomScript(rnd, first)
		w, said := first, ""
		for _, line := range plainLines(text) {
			r := impl.StepScript(w, line)
			if r.Code != impl.OK {
				said += fmt.Sprintf("! %d\n", r.Code)
				continue
			}
			w = r.World
			if said += r.Said; r.Said != "" && !strings.HasSuffix(r.Said, "\n") {
				said += "\n"
			}
		}
		wantScriptResult(t, text, impl.RunScript(first, text), impl.ScriptResult{World: w, Said: said})
	}
}

func TestBoundsOfScripts(t *testing.T) {
	if impl.MaxScript != 1200 || impl.MaxLines != 40 {
		t.Error(impl.MaxScript, impl.MaxLines)
	}
}
