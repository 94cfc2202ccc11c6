package tests

import (
	"math"
	"math/rand"
	"slices"
	"testing"

	"loop.example/g00311/impl"
)

// Promise 1: the functions of entries answer at every argument. Here: which code, and which of two comes first.

// plainEntryFault asks what the chapter says word by word.
func plainEntryFault(e impl.Entry) int64 {
	if e.Index < 1 || e.Index > 9999 || e.Term < 1 || e.Term > 999 {
		return impl.ErrRange
	}
	if len(e.Data) > 6 {
		return impl.ErrMany
	}
	for _, word := range e.Data {
		if word < 0 || word > 65535 {
			return impl.ErrRange
		}
	}
	return impl.OK
}

// plainLogFault gathers the codes entry by entry; the first that is not 0 is the answer.
func plainLogFault(log []impl.Entry) int64 {
	if len(log) > 14 {
		return impl.ErrMany
	}
	var codes []int64
	for i, e := range log {
		codes = append(codes, plainEntryFault(e))
		if i > 0 {
			codes = append(codes, notBehind(e, log[i-1]))
		}
	}
	return firstCode(codes...)
}

// notBehind counts from the later entry down, so that it overflows at another place than counting up.
func notBehind(e impl.Entry, ahead impl.Entry) int64 {
	if e.Index-1 != ahead.Index || e.Term < ahead.Term {
		return impl.ErrForm
	}
	return impl.OK
}

type entryCase struct {
	name string
	e    impl.Entry
	code int64
}

func entryCases() []entryCase {
	list := []entryCase{
		{"the zero value", impl.Entry{}, impl.ErrRange},
		{"no data", entryOf(2, 1), impl.OK},
		{"no data, its list empty", impl.Entry{Index: 2, Term: 1, Data: []int64{}}, impl.OK},
		{"one word", entryOf(2, 1, 9), impl.OK},
		{"five words", entryOf(2, 1, run(1, 5)...), impl.OK},
		{"six words", entryOf(2, 1, run(1, 6)...), impl.OK},
		{"seven words", entryOf(2, 1, run(1, 7)...), impl.ErrMany},
		{"seven words 0", entryOf(2, 1, same(0, 7)...), impl.ErrMany},
		{"64 words", entryOf(2, 1, same(0, 64)...), impl.ErrMany},
		{"65 words", entryOf(2, 1, same(0, 65)...), impl.ErrMany},
		{"1000 words", entryOf(2, 1, same(0, 1000)...), impl.ErrMany},
		{"Index ahead of data", entryOf(0, 1, same(0, 7)...), impl.ErrRange},
		{"Index beyond its bound ahead of data", entryOf(10000, 1, same(0, 7)...), impl.ErrRange},
		{"Term ahead of data", entryOf(2, 0, same(0, 7)...), impl.ErrRange},
		{"Term beyond its bound ahead of data", entryOf(2, 1000, same(0, 7)...), impl.ErrRange},
		{"Index and Term", entryOf(0, 0), impl.ErrRange},
		{"too much data ahead of its words", entryOf(2, 1, same(-1, 7)...), impl.ErrMany},
		{"too much data, the last word wrong", entryOf(2, 1, append(same(0, 6), 65536)...), impl.ErrMany},
		{"six words, the first below 0", entryOf(2, 1, append([]int64{-1}, same(0, 5)...)...), impl.ErrRange},
		{"six words, the last too great", entryOf(2, 1, append(same(0, 5), 65536)...), impl.ErrRange},
		{"Index 999 above the greatest Term", entryOf(1000, 999), impl.OK},
		{"Term within the bounds of an Index alone", entryOf(1, 9999), impl.ErrRange},
	}
	for _, c := range numberCases(1, 9999) {
		list = append(list, entryCase{"Index is " + c.name, entryOf(c.number, 1, 5), c.code})
	}
	for _, c := range numberCases(1, 999) {
		list = append(list, entryCase{"Term is " + c.name, entryOf(2, c.number, 5), c.code})
	}
	for _, c := range numberCases(0, 65535) {
		list = append(list,
			entryCase{"the word is " + c.name, entryOf(2, 1, c.number), c.code},
			entryCase{"the last word is " + c.name, entryOf(2, 1, 1, 2, 3, 4, 5, c.number), c.code})
	}
	return list
}

func TestEntryFault(t *testing.T) {
	for _, c := range entryCases() {
		if code := impl.EntryFault(c.e); code != c.code {
			t.Errorf("%s: %d, want %d", c.name, code, c.code)
		}
		if code := plainEntryFault(c.e); code != c.code {
			t.Errorf("%s: the plain one says %d, want %d", c.name, code, c.code)
		}
		if code := impl.LogFault([]impl.Entry{c.e}); code != c.code {
			t.Errorf("%s, a log of it: %d, want %d", c.name, code, c.code)
		}
		wantIntsCode(t, c.name, impl.PackEntry(c.e), c.code)
	}
}

// hollowLog gives n entries without data, of one Term, from first on.
func hollowLog(first int64, n int) []impl.Entry {
	var log []impl.Entry
	for i := range int64(n) {
		log = append(log, entryOf(first+i, 3))
	}
	return log
}

type logCase struct {
	name string
	log  []impl.Entry
	code int64
}

func logCases() []logCase {
	e := entryOf(2, 3, 9)
	list := []logCase{
		{"none", nil, impl.OK},
		{"an empty list", []impl.Entry{}, impl.OK},
		{"the zero value", []impl.Entry{{}}, impl.ErrRange},
		{"one", []impl.Entry{e}, impl.OK},
		{"one that is not the first", []impl.Entry{entryOf(9999, 999)}, impl.OK},
		{"13", hollowLog(1, 13), impl.OK},
		{"14", hollowLog(1, 14), impl.OK},
		{"14 up to the greatest Index", hollowLog(9986, 14), impl.OK},
		{"14 beyond the greatest Index", hollowLog(9987, 14), impl.ErrRange},
		{"14 from 0 on", hollowLog(0, 14), impl.ErrRange},
		{"15", hollowLog(1, 15), impl.ErrMany},
		{"1000", hollowLog(1, 1000), impl.ErrMany},
		{"15 of one Index", slices.Repeat([]impl.Entry{e}, 15), impl.ErrMany},
		{"15 of no entry", make([]impl.Entry, 15), impl.ErrMany},
		{"15, the first with a fault", append([]impl.Entry{{}}, hollowLog(1, 14)...), impl.ErrMany},
		{"14 of one Index", slices.Repeat([]impl.Entry{e}, 14), impl.ErrForm},
		{"Index stays", []impl.Entry{e, entryOf(2, 3)}, impl.ErrForm},
		{"Index falls", []impl.Entry{e, entryOf(1, 3)}, impl.ErrForm},
		{"Index leaves one out", []impl.Entry{e, entryOf(4, 3)}, impl.ErrForm},
		{"Index leaves many out", []impl.Entry{e, entryOf(9999, 3)}, impl.ErrForm},
		{"Index goes round", []impl.Entry{entryOf(9999, 3), entryOf(1, 3)}, impl.ErrForm},
		{"Index is 14 more", []impl.Entry{e, entryOf(16, 3)}, impl.ErrForm},
		{"Term stays", []impl.Entry{e, entryOf(3, 3)}, impl.OK},
		{"Term grows", []impl.Entry{e, entryOf(3, 4)}, impl.OK},
		{"Term grows by many", []impl.Entry{e, entryOf(3, 999)}, impl.OK},
		{"Term falls", []impl.Entry{e, entryOf(3, 2)}, impl.ErrForm},
		{"Term falls by many", []impl.Entry{entryOf(2, 999), entryOf(3, 1)}, impl.ErrForm},
		{"Index and Term", []impl.Entry{e, entryOf(2, 2)}, impl.ErrForm},
		{"Index stays, Term grows", []impl.Entry{e, entryOf(2, 4)}, impl.ErrForm},
		{"Term falls below the one ahead alone", []impl.Entry{e, entryOf(3, 5), entryOf(4, 4)}, impl.ErrForm},
		{"the last of three leaves one out", []impl.Entry{e, entryOf(3, 3), entryOf(5, 3)}, impl.ErrForm},
		{"the last of three is the first's next", []impl.Entry{e, entryOf(3, 3), entryOf(3, 3)}, impl.ErrForm},
		{"the last of 14 falls in Term", append(hollowLog(1, 13), entryOf(14, 2)), impl.ErrForm},
		{"the last of 14 stays", append(hollowLog(1, 13), entryOf(13, 3)), impl.ErrForm},
		{"no data and data", []impl.Entry{e, entryOf(3, 3), entryOf(4, 3, run(0, 6)...)}, impl.OK},
		{"its own fault ahead of that it falls", []impl.Entry{e, entryOf(0, 3)}, impl.ErrRange},
		{"its own Term ahead of that it falls", []impl.Entry{e, entryOf(3, 0)}, impl.ErrRange},
		{"too much data ahead of that it stays", []impl.Entry{e, entryOf(2, 3, run(0, 7)...)}, impl.ErrMany},
		{"a word ahead of that it stays", []impl.Entry{e, entryOf(2, 3, -1)}, impl.ErrRange},
		{"one by one: stays ahead of a later range", []impl.Entry{e, e, entryOf(0, 3)}, impl.ErrForm},
		{"one by one: stays ahead of later data", []impl.Entry{e, e, entryOf(3, 3, run(0, 7)...)}, impl.ErrForm},
		{"one by one: falls in Term ahead of a later word", []impl.Entry{e, entryOf(3, 2), entryOf(4, 3, 65536)}, impl.ErrForm},
		{"one by one: data ahead of a later range", []impl.Entry{entryOf(2, 3, run(0, 7)...), entryOf(0, 3)}, impl.ErrMany},
		{"one by one: range ahead of later data", []impl.Entry{entryOf(0, 3), entryOf(1, 3, run(0, 7)...)}, impl.ErrRange},
		{"one by one: a word ahead of later data", []impl.Entry{entryOf(1, 3, 65536), entryOf(2, 3, run(0, 7)...)}, impl.ErrRange},
		{"one by one: data ahead of a later Index that stays", []impl.Entry{entryOf(2, 3, run(0, 7)...), e}, impl.ErrMany},
		{"one by one: range ahead of a later Index that stays", []impl.Entry{entryOf(2, 3, -1), e}, impl.ErrRange},
		{"the least behind the greatest int64", []impl.Entry{entryOf(math.MaxInt64, 3), entryOf(math.MinInt64, 3)}, impl.ErrRange},
		{"the least int64 behind one", []impl.Entry{e, entryOf(math.MinInt64, 3)}, impl.ErrRange},
	}
	for _, c := range entryCases() {
		list = append(list, logCase{"behind one: " + c.name, []impl.Entry{entryOf(1, 1), c.e}, firstCode(c.code, notBehind(c.e, entryOf(1, 1)))})
	}
	return list
}

func TestLogFault(t *testing.T) {
	for _, c := range logCases() {
		if code := impl.LogFault(c.log); code != c.code {
			t.Errorf("%s: %d, want %d", c.name, code, c.code)
		}
		if code := plainLogFault(c.log); code != c.code {
			t.Errorf("%s: the plain one says %d, want %d", c.name, code, c.code)
		}
	}
}

// All lists of three entries that have some of all faults: each one's own first, then what it is to the one ahead, then the next one.
func TestLogFaultOfThree(t *testing.T) {
	var entries []impl.Entry
	for _, index := range []int64{0, 1, 2, 3, 9999, 10000, math.MinInt64, math.MaxInt64} {
		for _, term := range []int64{0, 1, 2, 1000} {
			for _, data := range [][]int64{nil, {65536}, run(0, 7)} {
				entries = append(entries, entryOf(index, term, data...))
			}
		}
	}
	for _, a := range entries {
		for _, b := range entries {
			for _, c := range entries {
				log := []impl.Entry{a, b, c}
				if got, want := impl.LogFault(log), plainLogFault(log); got != want {
					t.Fatalf("%v: %d, want %d", log, got, want)
				}
			}
		}
	}
}

// Random logs of none up to 16 entries, of which some are spoilt.
func TestLogFaultOfMany(t *testing.T) {
	rnd := rand.New(rand.NewSource(96))
	seen := map[int64]int{}
	for range 50000 {
		log := randomLog(rnd, rnd.Intn(17))
		for range rnd.Intn(3) {
			if len(log) > 0 {
				spoilEntry(rnd, &log[rnd.Intn(len(log))])
			}
		}
		got, want := impl.LogFault(log), plainLogFault(log)
		if got != want {
			t.Fatalf("%v: %d, want %d", log, got, want)
		}
		seen[got]++
	}
	for _, code := range []int64{impl.OK, impl.ErrMany, impl.ErrRange, impl.ErrForm} {
		if seen[code] < 1000 {
			t.Errorf("code %d came just %d times", code, seen[code])
		}
	}
}

// spoilEntry changes one thing of an entry, which may come to a fault or to none.
func spoilEntry(rnd *rand.Rand, e *impl.Entry) {
	switch rnd.Intn(4) {
	case 0:
		e.Index = []int64{0, 1, 9999, 10000, e.Index - 1, e.Index + 1}[rnd.Intn(6)]
	case 1:
		e.Term = []int64{0, 1, 999, 1000, e.Term - 1, e.Term + 1}[rnd.Intn(6)]
	case 2:
		e.Data = run(rnd.Int63n(9), rnd.Intn(9))
	case 3:
		e.Data = append(e.Data[:len(e.Data):len(e.Data)], []int64{-1, 0, 65535, 65536}[rnd.Intn(4)])
	}
}

func TestSlotForCodes(t *testing.T) {
	for _, c := range numberCases(1, 9999) {
		r := impl.SlotFor(c.number)
		wantCode(t, "index is "+c.name, r.Code, r.Value == 0, c.code)
	}
	for _, index := range []int64{0, -13, -14, -15, 10000, 10010, 10011, 65536, math.MinInt64 + 1, math.MaxInt64 - 1} {
		wantInt(t, "beyond the bounds", impl.SlotFor(index), impl.IntResult{Code: impl.ErrRange})
	}
}

func TestUnpackEntryCodes(t *testing.T) {
	for _, c := range wordsCases() {
		code := c.code
		if code == impl.OK {
			code = impl.ErrText
		}
		wantEntriesCode(t, c.name, impl.UnpackEntry(c.words), code)
	}
	cases := []struct {
		name  string
		words []int64
		code  int64
	}{
		{"no words", nil, impl.ErrText},
		{"empty words", []int64{}, impl.ErrText},
		{"one word", []int64{2}, impl.ErrText},
		{"one word 0", []int64{0}, impl.ErrText},
		{"two words", []int64{2, 1}, impl.ErrText},
		{"two words 0", []int64{0, 0}, impl.ErrText},
		{"three words 0", []int64{0, 0, 0}, impl.ErrText},
		{"64 words 0", same(0, 64), impl.ErrText},
		{"65 words 0", same(0, 65), impl.ErrMany},
		{"no data", []int64{2, 1, 0}, impl.OK},
		{"no data, and a word too many", []int64{2, 1, 0, 9}, impl.ErrText},
		{"no data, and a 0 too many", []int64{2, 1, 0, 0}, impl.ErrText},
		{"one word of data", []int64{2, 1, 1, 9}, impl.OK},
		{"the data is cut off", []int64{2, 1, 1}, impl.ErrText},
		{"the last of the data is cut off", []int64{2, 1, 3, 9, 8}, impl.ErrText},
		{"a word too many", []int64{2, 1, 1, 9, 8}, impl.ErrText},
		{"a 0 too many", []int64{2, 1, 1, 9, 0}, impl.ErrText},
		{"a count too great", []int64{2, 1, 2, 9}, impl.ErrText},
		{"a count too small", []int64{2, 1, 0, 9}, impl.ErrText},
		{"the greatest count", []int64{2, 1, 65535, 9}, impl.ErrText},
		{"six words", []int64{2, 1, 6, 1, 2, 3, 4, 5, 6}, impl.OK},
		{"six words, the count is 5", []int64{2, 1, 5, 1, 2, 3, 4, 5, 6}, impl.ErrText},
		{"six words, the count is 7", []int64{2, 1, 7, 1, 2, 3, 4, 5, 6}, impl.ErrText},
		{"seven words", []int64{2, 1, 7, 1, 2, 3, 4, 5, 6, 7}, impl.ErrText},
		{"seven words, the count is 6", []int64{2, 1, 6, 1, 2, 3, 4, 5, 6, 7}, impl.ErrText},
		{"61 words", append([]int64{2, 1, 61}, same(0, 61)...), impl.ErrText},
		{"62 words", append([]int64{2, 1, 62}, same(0, 62)...), impl.ErrMany},
		{"an entry, filled up to a block", append([]int64{2, 1, 1, 9}, same(0, 60)...), impl.ErrText},
		{"an entry, filled beyond a block", append([]int64{2, 1, 1, 9}, same(0, 61)...), impl.ErrMany},
		{"Index 0", []int64{0, 1, 0}, impl.ErrText},
		{"Index 1", []int64{1, 1, 0}, impl.OK},
		{"Index 9999", []int64{9999, 1, 0}, impl.OK},
		{"Index 10000", []int64{10000, 1, 0}, impl.ErrText},
		{"Index 65535", []int64{65535, 1, 0}, impl.ErrText},
		{"Term 0", []int64{2, 0, 0}, impl.ErrText},
		{"Term 999", []int64{2, 999, 0}, impl.OK},
		{"Term 1000", []int64{2, 1000, 0}, impl.ErrText},
		{"Term 65535", []int64{2, 65535, 0}, impl.ErrText},
		{"a word 65535", []int64{2, 1, 1, 65535}, impl.OK},
		{"a word 65536", []int64{2, 1, 1, 65536}, impl.ErrRange},
		{"a word below 0", []int64{2, 1, 1, -1}, impl.ErrRange},
		{"a count below 0", []int64{2, 1, -1}, impl.ErrRange},
		{"a count as small as can be", []int64{2, 1, math.MinInt64}, impl.ErrRange},
		{"a count as great as can be", []int64{2, 1, math.MaxInt64, 9}, impl.ErrRange},
		{"a count that wraps round to 1", []int64{2, 1, 1<<32 + 1, 9}, impl.ErrRange},
		{"Index below 0", []int64{-2, 1, 0}, impl.ErrRange},
		{"Index as great as can be", []int64{math.MaxInt64, 1, 0}, impl.ErrRange},
		{"Term as small as can be", []int64{2, math.MinInt64, 0}, impl.ErrRange},
		{"one word below 0", []int64{-1}, impl.ErrRange},
		{"cut off ahead of a word below 0", []int64{2, 1, 5, -1}, impl.ErrRange},
		{"Index 0 ahead of a word that is too great", []int64{0, 1, 1, 65536}, impl.ErrRange},
		{"64 words, the last below 0", append(same(0, 63), -1), impl.ErrRange},
		{"65 words below 0", same(-1, 65), impl.ErrMany},
		{"two entries", []int64{2, 1, 1, 9, 3, 1, 0}, impl.ErrText},
	}
	for _, c := range cases {
		wantEntriesCode(t, c.name, impl.UnpackEntry(c.words), c.code)
		if n := len(impl.UnpackEntry(c.words).Entries); c.code == impl.OK && n != 1 {
			t.Errorf("%s: %d entries", c.name, n)
		}
	}
}

// What cannot be read is a code at every length, of words within their bounds and beyond them: nothing else gets out.
func TestNothingButACodeGetsOut(t *testing.T) {
	numbers := []int64{math.MinInt64, -1, 0, 1, 6, 7, 61, 999, 9999, 65535, 65536, math.MaxInt64}
	rnd := rand.New(rand.NewSource(97))
	for n := range 80 {
		for range 500 {
			var words []int64
			for range n {
				words = append(words, numbers[2+rnd.Intn(8)])
			}
			if n > 0 && rnd.Intn(2) == 0 {
				words[rnd.Intn(n)] = numbers[rnd.Intn(len(numbers))]
			}
			code := plainWordsFault(words)
			if code != impl.OK {
				wantEntriesCode(t, "words with a fault", impl.UnpackEntry(words), code)
				continue
			}
			wantEntryOrText(t, words)
		}
	}
}

func plainWordsFault(words []int64) int64 {
	if len(words) > 64 {
		return impl.ErrMany
	}
	if slices.ContainsFunc(words, func(word int64) bool { return word < 0 || word > 65535 }) {
		return impl.ErrRange
	}
	return impl.OK
}

// Whoever asks while a panic of its own is under way gets the same answers, and the panic stays its own.
func TestAPanicOfWhoAsksIsLeftAlone(t *testing.T) {
	defer func() {
		if got := recover(); got != "of the test" {
			t.Errorf("the panic is %v", got)
		}
	}()
	defer func() {
		wantEntries(t, "an entry", impl.UnpackEntry([]int64{2, 1, 1, 9}), entryOf(2, 1, 9))
		wantEntriesCode(t, "no entry", impl.UnpackEntry([]int64{2, 1, 2, 9}), impl.ErrText)
		wantEntriesCode(t, "words with a fault", impl.UnpackEntry([]int64{-1}), impl.ErrRange)
	}()
	panic("of the test")
}

func TestNilAndEmptyAreTheSameToEntries(t *testing.T) {
	none, bare := []impl.Entry{}, impl.Entry{Index: 2, Term: 1, Data: []int64{}}
	wantWords(t, "PackEntry", impl.PackEntry(bare), impl.PackEntry(entryOf(2, 1)).List)
	wantEntries(t, "UnpackEntry", impl.UnpackEntry([]int64{2, 1, 0}), bare)
	wantEntriesCode(t, "UnpackEntry", impl.UnpackEntry([]int64{}), impl.UnpackEntry(nil).Code)
	if impl.EntryFault(bare) != impl.OK || impl.LogFault(none) != impl.LogFault(nil) || impl.LogFault([]impl.Entry{bare}) != impl.OK {
		t.Error("an empty list and nil differ to a fault")
	}
	if !impl.SameEntries(none, nil) || !impl.SameEntries(nil, none) || !impl.SameEntries([]impl.Entry{bare}, []impl.Entry{entryOf(2, 1)}) {
		t.Error("an empty list and nil are not the same entries")
	}
	if impl.CommonOf(none, nil) != 0 || impl.CommonOf([]impl.Entry{bare}, []impl.Entry{entryOf(2, 1)}) != 1 {
		t.Error("an empty list and nil have nothing in common")
	}
}
