package tests

import (
	"math"
	"math/rand"
	"slices"
	"testing"

	"loop.example/g00311/impl"
)

// Promise 10: an entry is read back from its words; what two logs have in common is a beginning of both.

func entryOf(index int64, term int64, data ...int64) impl.Entry {
	return impl.Entry{Index: index, Term: term, Data: data}
}

// plainSameEntry holds field against field and word against word.
func plainSameEntry(a impl.Entry, b impl.Entry) bool {
	if a.Index != b.Index || a.Term != b.Term || len(a.Data) != len(b.Data) {
		return false
	}
	for i, word := range a.Data {
		if word != b.Data[i] {
			return false
		}
	}
	return true
}

func plainSameEntries(a []impl.Entry, b []impl.Entry) bool {
	return len(a) == len(b) && plainCommon(a, b) == int64(len(a))
}

func plainCommon(a []impl.Entry, b []impl.Entry) int64 {
	n := 0
	for n < len(a) && n < len(b) && plainSameEntry(a[n], b[n]) {
		n++
	}
	return int64(n)
}

func wantEntries(t *testing.T, name string, r impl.EntriesResult, want ...impl.Entry) {
	t.Helper()
	if r.Code != impl.OK || !plainSameEntries(r.Entries, want) {
		t.Fatalf("%s: %v, want %v", name, r, want)
	}
}

func wantEntriesCode(t *testing.T, name string, r impl.EntriesResult, code int64) {
	t.Helper()
	wantCode(t, name, r.Code, len(r.Entries) == 0, code)
}

// wantReadBack asks the words of an entry that has no fault, and the entry of these words.
func wantReadBack(t *testing.T, e impl.Entry) {
	t.Helper()
	words := impl.PackEntry(e)
	wantWords(t, "PackEntry", words, slices.Concat([]int64{e.Index, e.Term, int64(len(e.Data))}, e.Data))
	wantEntries(t, "UnpackEntry", impl.UnpackEntry(words.List), e)
}

func randomEntry(rnd *rand.Rand) impl.Entry {
	e := entryOf(1+rnd.Int63n(9999), 1+rnd.Int63n(999))
	for range rnd.Intn(7) {
		e.Data = append(e.Data, []int64{0, 1, 65535, rnd.Int63n(65536)}[rnd.Intn(4)])
	}
	return e
}

// randomLog has n entries without a fault, some of them without data.
func randomLog(rnd *rand.Rand, n int) []impl.Entry {
	var log []impl.Entry
	first, term := 1+rnd.Int63n(9985), 1+rnd.Int63n(900)
	for i := range n {
		e := randomEntry(rnd)
		term += rnd.Int63n(2)
		e.Index, e.Term = first+int64(i), term
		log = append(log, e)
	}
	return log
}

func copyLog(log []impl.Entry) []impl.Entry {
	var list []impl.Entry
	for _, e := range log {
		list = append(list, entryOf(e.Index, e.Term, slices.Clone(e.Data)...))
	}
	return list
}

func TestEntryBounds(t *testing.T) {
	if impl.MaxData != 6 || impl.MaxEntries != 14 || impl.EntriesAt != 24 {
		t.Error("14 entries of at most six words, from block 24 on")
	}
}

func TestEntryWordsByHand(t *testing.T) {
	cases := []struct {
		name  string
		e     impl.Entry
		words []int64
	}{
		{"as in the document", entryOf(2, 1, 9), []int64{2, 1, 1, 9}},
		{"no data", entryOf(2, 1), []int64{2, 1, 0}},
		{"no data, its list empty", impl.Entry{Index: 2, Term: 1, Data: []int64{}}, []int64{2, 1, 0}},
		{"a word 0", entryOf(2, 1, 0), []int64{2, 1, 1, 0}},
		{"the greatest word", entryOf(2, 1, 65535), []int64{2, 1, 1, 65535}},
		{"two words", entryOf(7, 3, 5, 4), []int64{7, 3, 2, 5, 4}},
		{"six words", entryOf(7, 3, 6, 5, 4, 3, 2, 1), []int64{7, 3, 6, 6, 5, 4, 3, 2, 1}},
		{"six words 0", entryOf(7, 3, same(0, 6)...), []int64{7, 3, 6, 0, 0, 0, 0, 0, 0}},
		{"five words, two 0 at the end", entryOf(7, 3, 1, 2, 3, 0, 0), []int64{7, 3, 5, 1, 2, 3, 0, 0}},
		{"the least Index and Term", entryOf(1, 1), []int64{1, 1, 0}},
		{"the greatest Index and Term", entryOf(9999, 999), []int64{9999, 999, 0}},
		{"the greatest Index, the least Term", entryOf(9999, 1, 8), []int64{9999, 1, 1, 8}},
		{"the least Index, the greatest Term", entryOf(1, 999, 8), []int64{1, 999, 1, 8}},
		{"all at its greatest", entryOf(9999, 999, same(65535, 6)...), []int64{9999, 999, 6, 65535, 65535, 65535, 65535, 65535, 65535}},
		{"data like a head", entryOf(3, 3, 3, 3, 3), []int64{3, 3, 3, 3, 3, 3}},
	}
	for _, c := range cases {
		wantWords(t, c.name, impl.PackEntry(c.e), c.words)
		wantEntries(t, c.name, impl.UnpackEntry(c.words), c.e)
	}
}

// Each Index, each Term, each number of words and each word by itself.
func TestEachEntryIsReadBack(t *testing.T) {
	for index := int64(1); index <= 9999; index++ {
		wantReadBack(t, entryOf(index, 1+index%999, run(index, int(index%7))...))
	}
	for term := int64(1); term <= 999; term++ {
		for n := range 7 {
			wantReadBack(t, entryOf(10000-term, term, run(term, n)...))
		}
	}
	for word := range int64(65536) {
		data := same(7, 1+int(word%6))
		data[len(data)-1] = word
		wantReadBack(t, entryOf(1, 1, data...))
	}
}

func TestManyEntriesAreReadBack(t *testing.T) {
	rnd := rand.New(rand.NewSource(91))
	for range 50000 {
		wantReadBack(t, randomEntry(rnd))
	}
}

// plainEntryIn takes words one behind the other, the data by its count; what it reads may have a fault.
func plainEntryIn(words []int64) (impl.Entry, bool) {
	if len(words) < 3 || words[2] > int64(len(words)) {
		return impl.Entry{}, false
	}
	e, rest := entryOf(words[0], words[1]), words[3:]
	for range words[2] {
		if len(rest) == 0 {
			return impl.Entry{}, false
		}
		e.Data, rest = append(e.Data, rest[0]), rest[1:]
	}
	return e, len(rest) == 0
}

// wantEntryOrText holds UnpackEntry against a plain reader: what it reads is an entry of just these words, or it is none.
func wantEntryOrText(t *testing.T, words []int64) bool {
	t.Helper()
	e, ok := plainEntryIn(words)
	r := impl.UnpackEntry(words)
	if !ok || plainEntryFault(e) != impl.OK {
		wantEntriesCode(t, "of no entry", r, impl.ErrText)
		return false
	}
	wantEntries(t, "of an entry", r, e)
	wantWords(t, "packed again", impl.PackEntry(r.Entries[0]), words)
	return true
}

// All lists of up to ten words of numbers that may be an Index, a Term, a count or data.
func TestAllShortWordsAreAnEntryOrNone(t *testing.T) {
	numbers := []int64{0, 1, 6}
	read := 0
	var try func(words []int64)
	try = func(words []int64) {
		if wantEntryOrText(t, words) {
			read++
		}
		if len(words) < 10 {
			for _, n := range numbers {
				try(append(words[:len(words):len(words)], n))
			}
		}
	}
	try(nil)
	// Index and Term are 1 or 6, and there is no data, one word or six.
	if want := 4 * (1 + 3 + 729); read != want {
		t.Errorf("%d entries, want %d", read, want)
	}
}

// Each head of numbers at the edges, with none up to 61 words behind it: just as many as it counts are right.
func TestEachCountIsHeldAgainstTheWords(t *testing.T) {
	for _, index := range []int64{0, 1, 9999, 10000, 65535} {
		for _, term := range []int64{0, 1, 999, 1000, 65535} {
			for _, count := range []int64{0, 1, 2, 3, 4, 5, 6, 7, 8, 61, 65535} {
				for n := range 62 {
					words := append([]int64{index, term, count}, run(1, n)...)
					want := index >= 1 && index <= 9999 && term >= 1 && term <= 999 && count == int64(n) && n <= 6
					if got := wantEntryOrText(t, words); got != want {
						t.Fatalf("%v: an entry: %v", words, got)
					}
				}
			}
		}
	}
}

// Words of an entry of which one is another, is left out or stands twice, and those that are cut off anywhere.
func TestSpoiltWordsAreAnEntryOrNone(t *testing.T) {
	rnd := rand.New(rand.NewSource(92))
	for range 500 {
		words := impl.PackEntry(randomEntry(rnd)).List
		for i := range words {
			for _, n := range []int64{0, 1, 2, 3, 5, 6, 7, 999, 1000, 9999, 10000, 65535, rnd.Int63n(65536)} {
				spoilt := slices.Clone(words)
				spoilt[i] = n
				wantEntryOrText(t, spoilt)
				wantEntryOrText(t, slices.Insert(slices.Clone(words), i, n))
				wantEntryOrText(t, append(slices.Clone(words), n))
			}
			wantEntryOrText(t, slices.Delete(slices.Clone(words), i, i+1))
			wantEntryOrText(t, words[:i])
			wantEntryOrText(t, words[i:])
		}
		wantEntryOrText(t, append(slices.Clone(words), words...))
	}
}

func TestSlotForByHand(t *testing.T) {
	for _, c := range []struct{ index, slot int64 }{
		{1, 25}, {2, 26}, {12, 36}, {13, 37}, {14, 24}, {15, 25}, {27, 37}, {28, 24}, {29, 25},
		{9995, 37}, {9996, 24}, {9997, 25}, {9998, 26}, {9999, 27},
	} {
		wantInt(t, "SlotFor", impl.SlotFor(c.index), impl.IntResult{Value: c.slot})
	}
}

// Slots go round: the next one's is the next, behind the last slot the first, and no two of 14 in a row have one.
func TestSlotsOfEntriesGoRound(t *testing.T) {
	slot := impl.SlotFor(1).Value
	for index := int64(1); index <= 9999; index++ {
		wantInt(t, "the next one", impl.SlotFor(index), impl.IntResult{Value: slot})
		if slot < 24 || slot > 37 {
			t.Fatalf("%d: slot %d", index, slot)
		}
		for i := index + 1; i <= min(index+28, 9999); i++ {
			if other := impl.SlotFor(i).Value; (other == slot) != ((i-index)%14 == 0) {
				t.Fatalf("%d and %d: %d and %d", index, i, slot, other)
			}
		}
		slot++
		if slot == 38 {
			slot = 24
		}
	}
}

type samePair struct {
	name   string
	a      []impl.Entry
	b      []impl.Entry
	common int64
	same   bool
}

func samePairs() []samePair {
	e, f, g := entryOf(2, 1, 9), entryOf(3, 2), entryOf(4, 2, 8, 7)
	three := []impl.Entry{e, f, g}
	bare := impl.Entry{Index: 3, Term: 2, Data: []int64{}}
	least := entryOf(math.MinInt64, math.MinInt64, math.MinInt64)
	most := entryOf(math.MaxInt64, math.MaxInt64, math.MaxInt64)
	return []samePair{
		{"none and none", nil, nil, 0, true},
		{"none and an empty list", nil, []impl.Entry{}, 0, true},
		{"none and one", nil, three[:1], 0, false},
		{"none and one of all 0", nil, []impl.Entry{{}}, 0, false},
		{"one", three[:1], []impl.Entry{entryOf(2, 1, 9)}, 1, true},
		{"one of all 0", []impl.Entry{{}}, []impl.Entry{{}}, 1, true},
		{"without data", []impl.Entry{f}, []impl.Entry{bare}, 1, true},
		{"all three", three, []impl.Entry{e, bare, g}, 3, true},
		{"a beginning of one", three, three[:1], 1, false},
		{"a beginning of two", three, three[:2], 2, false},
		{"an end of two", three, three[1:], 0, false},
		{"one twice", []impl.Entry{e}, []impl.Entry{e, e}, 1, false},
		{"crosswise", []impl.Entry{e, f}, []impl.Entry{f, e}, 0, false},
		{"other Index", []impl.Entry{e}, []impl.Entry{entryOf(3, 1, 9)}, 0, false},
		{"other Term", []impl.Entry{e}, []impl.Entry{entryOf(2, 2, 9)}, 0, false},
		{"Index and Term crosswise", []impl.Entry{e}, []impl.Entry{entryOf(1, 2, 9)}, 0, false},
		{"one word other", []impl.Entry{e}, []impl.Entry{entryOf(2, 1, 8)}, 0, false},
		{"the last word other", []impl.Entry{g}, []impl.Entry{entryOf(4, 2, 8, 6)}, 0, false},
		{"words crosswise", []impl.Entry{g}, []impl.Entry{entryOf(4, 2, 7, 8)}, 0, false},
		{"a word more", []impl.Entry{g}, []impl.Entry{entryOf(4, 2, 8, 7, 0)}, 0, false},
		{"a word less", []impl.Entry{g}, []impl.Entry{entryOf(4, 2, 8)}, 0, false},
		{"no data and a word 0", []impl.Entry{f}, []impl.Entry{entryOf(3, 2, 0)}, 0, false},
		{"they part at the first", three, []impl.Entry{entryOf(2, 2, 9), f, g}, 0, false},
		{"they part in between", three, []impl.Entry{e, entryOf(3, 1), g}, 1, false},
		{"they part at the last", three, []impl.Entry{e, f, entryOf(4, 2, 8)}, 2, false},
		{"they part in between, and one ends", three, []impl.Entry{e, entryOf(3, 3)}, 1, false},
		{"what comes behind counts no more", three, []impl.Entry{entryOf(2, 1), f, g}, 0, false},
		{"faults are not asked", []impl.Entry{least, most, e, e}, []impl.Entry{least, most, e, e}, 4, true},
		{"faults are held against each other", []impl.Entry{least}, []impl.Entry{most}, 0, false},
		{"numbers 2 to the 32 apart", []impl.Entry{e}, []impl.Entry{entryOf(1<<32+2, 1, 9)}, 0, false},
		{"Terms 2 to the 32 apart", []impl.Entry{e}, []impl.Entry{entryOf(2, 1<<32+1, 9)}, 0, false},
		{"words 2 to the 16 apart", []impl.Entry{e}, []impl.Entry{entryOf(2, 1, 1<<16+9)}, 0, false},
		{"more entries than a log has", slices.Repeat([]impl.Entry{e}, 1000), slices.Repeat([]impl.Entry{e}, 1000), 1000, true},
		{"more by one", slices.Repeat([]impl.Entry{e}, 1000), slices.Repeat([]impl.Entry{e}, 1001), 1000, false},
		{"more data than an entry has", []impl.Entry{entryOf(1, 1, same(3, 1000)...)}, []impl.Entry{entryOf(1, 1, same(3, 1000)...)}, 1, true},
		{"more data by one", []impl.Entry{entryOf(1, 1, same(3, 1000)...)}, []impl.Entry{entryOf(1, 1, same(3, 1001)...)}, 0, false},
	}
}

// wantCommon asks both of the pair both ways round.
func wantCommon(t *testing.T, p samePair) {
	t.Helper()
	if n, back := impl.CommonOf(p.a, p.b), impl.CommonOf(p.b, p.a); n != p.common || back != p.common {
		t.Errorf("%s: %d and %d in common, want %d", p.name, n, back, p.common)
	}
	if impl.SameEntries(p.a, p.b) != p.same || impl.SameEntries(p.b, p.a) != p.same {
		t.Errorf("%s: the same: %v, want %v", p.name, !p.same, p.same)
	}
}

func TestSameEntriesByHand(t *testing.T) {
	for _, p := range samePairs() {
		wantCommon(t, p)
		wantBeginning(t, p.a, p.b)
		wantCommon(t, samePair{p.name + ", with itself", p.a, copyLog(p.a), int64(len(p.a)), true})
	}
}

// wantBeginning asks that what two have in common is a beginning of both, and that no longer one is.
func wantBeginning(t *testing.T, a []impl.Entry, b []impl.Entry) {
	t.Helper()
	n := impl.CommonOf(a, b)
	if n < 0 || n > int64(len(a)) || n > int64(len(b)) {
		t.Fatalf("%v, %v: %d in common", a, b, n)
	}
	if !plainSameEntries(a[:n], b[:n]) || !impl.SameEntries(a[:n], b[:n]) {
		t.Fatalf("%v, %v: the first %d are not the same", a, b, n)
	}
	if n < int64(len(a)) && n < int64(len(b)) && plainSameEntry(a[n], b[n]) {
		t.Fatalf("%v, %v: more than %d are the same", a, b, n)
	}
}

// changedEntry is the entry with one thing of it other: 0 its Index, 1 its Term, 2 a word more, 3 a word less, from 4 on a word.
func changedEntry(e impl.Entry, kind int) impl.Entry {
	next := entryOf(e.Index, e.Term, slices.Clone(e.Data)...)
	switch {
	case kind == 0:
		next.Index++
	case kind == 1:
		next.Term++
	case kind == 2 || len(e.Data) == 0:
		next.Data = append(next.Data, 0)
	case kind == 3:
		next.Data = next.Data[:len(e.Data)-1]
	default:
		next.Data[(kind-4)%len(e.Data)]++
	}
	return next
}

// Logs of each length that part at each place in each way: what is ahead of it they have in common.
func TestLogsPartWhereOneEntryDiffers(t *testing.T) {
	rnd := rand.New(rand.NewSource(93))
	for n := 1; n <= 14; n++ {
		for at := range n {
			for kind := range 10 {
				log := randomLog(rnd, n)
				other := copyLog(log)
				other[at] = changedEntry(other[at], kind)
				for end := range n + 1 {
					want := int64(min(at, end))
					wantCommon(t, samePair{"one differs", log, other[:end], want, false})
					wantCommon(t, samePair{"one differs", log[:end], other, want, false})
					wantCommon(t, samePair{"cut off", log, copyLog(log[:end]), int64(end), end == n})
				}
			}
		}
	}
}

// Random logs of few kinds of entries, so that many have a beginning in common.
func TestCommonOfManyLogs(t *testing.T) {
	rnd := rand.New(rand.NewSource(94))
	few := func() []impl.Entry {
		var log []impl.Entry
		for i := range int64(rnd.Intn(15)) {
			log = append(log, entryOf(1+i, 1+rnd.Int63n(8)/7, same(0, rnd.Intn(8)/7)...))
		}
		return log
	}
	equal := 0
	for range 50000 {
		a, b := few(), few()
		p := samePair{"few kinds", a, b, plainCommon(a, b), plainSameEntries(a, b)}
		wantCommon(t, p)
		wantBeginning(t, a, b)
		if p.same {
			equal++
		}
	}
	if equal < 100 {
		t.Errorf("just %d were the same", equal)
	}
}

// A log whose entries go through their words, each by itself, is the log that it was.
func TestLogsAreReadBack(t *testing.T) {
	rnd := rand.New(rand.NewSource(95))
	for range 500 {
		for _, n := range []int{0, 1, 2, 13, 14} {
			log := randomLog(rnd, n)
			if code := impl.LogFault(log); code != impl.OK {
				t.Fatalf("%v: %d", log, code)
			}
			var read []impl.Entry
			for _, e := range log {
				read = append(read, impl.UnpackEntry(impl.PackEntry(e).List).Entries...)
			}
			wantCommon(t, samePair{"read back", log, read, int64(n), true})
		}
	}
}
