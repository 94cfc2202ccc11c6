package tests

import (
	"math"
	"reflect"
	"strings"
	"testing"
	"unsafe"

	"loop.example/g00311/impl"
)

// Promise 1: the functions of scripts change no argument, their answers are new memory and hang on the arguments alone.

type scriptArgs struct {
	World impl.World
	Raft  impl.Raft
	Op    impl.Op
	Text  string
}

func scriptTexts() []string {
	return []string{
		"", "  ", "\n", "hard 7 1", "hard 5 2", "append 7 5 5 1,2", "compact 5 1,2", "install 9 6 4", "read 5", "read 99", "crash 0 read 5", "crash 3 hard 7 1", "crash 4 hard 7 1", "crash 99 hard 7 1",
		"tidy", "show", "x", "hard 7 1\nshow\nx\ncompact 5 1\n\ncrash 2 tidy\ntidy", "append 7 5 6 -\nappend 8 6 6 5\ncrash 5 compact 8 7,8,9\nread 8\nshow\n", strings.Repeat("x", 1201), strings.Repeat("\n", 41),
	}
}

func scriptArgsList() []scriptArgs {
	text, other := knownWorld(6, 4), knownWorld(6, 9)
	text.Disk.Blocks[26+23], other.Raft.Log[2].Data[1] = run(1, 3), 5
	sized := sizedStore(11, 40, 5)
	worlds := []impl.World{
		{}, impl.NewWorld(5).World, knownWorld(6, 0), knownWorld(6, 9), knownWorld(6, 24), {Disk: storeDisk(7, 3, 22, sized), Raft: sized}, cachedWorld(70), text, knownWorld(65000, 4), other,
		{Disk: knownWorld(6, 3).Disk, Raft: extremeStore(math.MaxInt64)},
	}
	ops := append(opsOfEachSort(), impl.Op{}, compactOp(5, run(1, 41)...), appendOp(1, 1, entryOf(2, 1, -1)), appendOp(1, 1, entryOf(3, 1)), readOp(100000), installOp(5, 2, 1, 2))
	var list []scriptArgs
	for i, line := range scriptTexts() {
		for k, w := range worlds {
			list = append(list, scriptArgs{w, worlds[(i+k)%len(worlds)].Raft, ops[(i*len(worlds)+k)%len(ops)], line})
		}
	}
	return list
}

func scriptCalls() []namedCall[scriptArgs] {
	return []namedCall[scriptArgs]{
		{"StepScript", func(a scriptArgs) any { return impl.StepScript(a.World, a.Text) }},
		{"RunScript", func(a scriptArgs) any { return impl.RunScript(a.World, a.Text) }},
		{"RaftText", func(a scriptArgs) any { return impl.RaftText(a.Raft) }},
		{"OpText", func(a scriptArgs) any { return impl.OpText(a.Op) }},
		{"WordsOf", func(a scriptArgs) any { return impl.WordsOf(a.Text) }},
	}
}

func TestScriptCallsKeepToTheirArguments(t *testing.T) {
	wantCallsApart(t, scriptCalls(), scriptArgsList())
}

func textSpan(text string) span {
	from := uintptr(unsafe.Pointer(unsafe.StringData(text)))
	return span{from, from + uintptr(len(text))}
}

// Nor does a text that is answered stand in the line that was given.
func TestTextsAreNewMemory(t *testing.T) {
	for _, line := range []string{"hard", "hard 7 1", "  read  5 ", "ok", "show", "tidy", "append 7 5 5 1,2", "crash 0 read 5", strings.Repeat("ab ", 300), "x\ny z"} {
		given := strings.Clone(line)
		words := impl.WordsOf(given).Words
		for i, word := range words {
			if overlap(textSpan(word), textSpan(given)) {
				t.Errorf("%q: a word stands in the line", line)
			}
			for _, other := range words[i+1:] {
				if overlap(textSpan(word), textSpan(other)) {
					t.Errorf("%q: a word stands in another", line)
				}
			}
		}
		for _, said := range []string{impl.StepScript(knownWorld(6, 3), given).Said, impl.RunScript(knownWorld(6, 3), given).Said} {
			if said != "" && overlap(textSpan(said), textSpan(given)) {
				t.Errorf("%q: what is said stands in the line", line)
			}
		}
		if given != line {
			t.Errorf("%q: changed", line)
		}
	}
}

// The list of words is apart from that of another call, and may be written to.
func TestWordsAreAListOfTheirOwn(t *testing.T) {
	line := "install 9 6 1,2"
	first, second := impl.WordsOf(line).Words, impl.WordsOf(line).Words
	wantNewMemory(t, "WordsOf", first, second)
	for i := range first {
		first[i] = "gone"
	}
	wantTextResult(t, "the words", impl.TextResult{Text: strings.Join(second, " ")}, impl.TextResult{Text: line})
	wantTextResult(t, "words of a later call", impl.TextResult{Text: strings.Join(impl.WordsOf(line).Words, " ")}, impl.TextResult{Text: line})
}

// What changes nothing answers the world that was given, in new memory: each block, the words of the snapshot, the log, the data of each entry.
func TestALineThatChangesNothingAnswersNewMemory(t *testing.T) {
	for _, n := range []int{0, 9, 24} {
		w := roomyCopy(knownWorld(6, n))
		for _, line := range []string{"", "   ", "show", "read 3", "read 99", "hard 6 2", "hard 5 2", "append 7 6 6 -", "append 4 2 3 9", "compact 3 1", "install 3 2 1", "crash 0 hard 7 1", "crash 0 read 3"} {
			step, all := impl.StepScript(w, line), impl.RunScript(w, line)
			if step.Code != impl.OK || all.Code != impl.OK || !sameWorlds(all.World, step.World) {
				t.Fatalf("%q: %d, %d", line, step.Code, all.Code)
			}
			wantNewMemory(t, "StepScript", step, w)
			wantNewMemory(t, "RunScript", all, w)
		}
		for _, text := range []string{"", "\n", "\n\n", "x", "x\ny\n", "hard 7\n\nx", "crash 9 read 3", "tidy 1\nshow"} {
			all := impl.RunScript(w, text)
			wantScriptResult(t, text, all, impl.ScriptResult{World: knownWorld(6, n), Said: plainRunScript(w, text).Said})
			wantNewMemory(t, "RunScript", all, w)
		}
		wantNewMemory(t, "StepScript of tidy", impl.StepScript(w, "tidy"), w)
		wantUnchanged(t, "the world", w, roomyCopy(knownWorld(6, n)))
	}
}

// Lists that stand in several places of a world come to lists of their own.
func TestSharedWordsLeadToScriptsOfTheirOwn(t *testing.T) {
	words := append(make([]int64, 0, 60), run(1, 6)...)
	w := sharedWorld(words)
	lines := []string{"", "show", "tidy", "hard 7 1", "append 5 3 3 1,2,3", "compact 5 1,2,3,4,5,6", "install 6 6 1,2,3", "install 5 3 1", "read 4", "read 1", "crash 3 hard 7 1", "crash 5 append 5 3 3 1"}
	for _, line := range lines {
		if r := wantLine(t, w, line); r.Code != impl.OK {
			t.Fatalf("%q: %d", line, r.Code)
		}
		wantNewMemory(t, line, impl.StepScript(w, line), w)
		wantNewMemory(t, line, impl.RunScript(w, line+"\nx\n"+line), w)
	}
	wantNewMemory(t, "all", impl.RunScript(w, strings.Join(lines, "\n")), w)
}

// What was given may be written to behind a call: what it answered hangs on it no more.
func TestScriptsAreApartFromWhatWasGiven(t *testing.T) {
	w := knownWorld(6, 9)
	text := "append 7 5 6 5,4\nx\nread 8"
	empty, show, step, all := impl.RunScript(w, ""), impl.StepScript(w, "show"), impl.StepScript(w, "append 7 5 6 5,4"), impl.RunScript(w, text)
	o := appendOp(7, 5, entryOf(8, 6, 5, 4))
	told, texted := impl.OpText(o), impl.RaftText(w.Raft)
	spoil(reflect.ValueOf(&w).Elem())
	o.List[0].Data[0], o.List[0].Term = -77, -77
	plain := knownWorld(6, 9)
	wantScriptResult(t, "nothing", empty, impl.ScriptResult{World: plain})
	wantScriptResult(t, "show", show, plainStepScript(plain, "show"))
	wantScriptResult(t, "a step", step, plainStepScript(plain, "append 7 5 6 5,4"))
	wantScriptResult(t, "a script", all, plainRunScript(plain, text))
	wantTextResult(t, "OpText", told, impl.TextResult{Text: "append 7 5 6 5,4"})
	wantTextResult(t, "RaftText", texted, plainRaftText(plain.Raft))
}

// Whatever was said ahead, the same line in the same world says the same.
func TestScriptsSayTheSameAgain(t *testing.T) {
	text := "hard 7 1\nappend 7 5 6 5,4\nx\ncrash 6 compact 6 1,2\nshow\nread 8\nhard 7 3\n"
	want := plainRunScript(knownWorld(6, 9), text)
	for range 20 {
		wantScriptResult(t, "again", impl.RunScript(knownWorld(6, 9), text), want)
		wantScriptCode(t, "again", impl.StepScript(knownWorld(6, 9), "x"), impl.ErrText)
		wantScriptResult(t, "again", impl.StepScript(knownWorld(6, 9), ""), impl.ScriptResult{World: knownWorld(6, 9)})
	}
}
