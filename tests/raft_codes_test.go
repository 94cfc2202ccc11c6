package tests

import (
	"math"
	"math/rand"
	"slices"
	"testing"

	"loop.example/g00311/impl"
)

// Promise 1: the functions of the store of a node answer at every argument. Here: which code, and which of two comes first.

func notSo(wrong bool, code int64) int64 {
	if wrong {
		return code
	}
	return impl.OK
}

func outside(number int64, least int64, most int64) bool {
	return number < least || number > most
}

func storeDataFault(data []int64) int64 {
	beyond := slices.ContainsFunc(data, func(word int64) bool { return outside(word, 0, 65535) })
	return firstCode(notSo(len(data) > 40, impl.ErrMany), notSo(beyond, impl.ErrRange))
}

// storeFault asks what the chapter says word by word, and each entry what the chapter asks of the first and the last one.
func storeFault(r impl.Raft) int64 {
	if outside(r.Term, 0, 999) || outside(r.Vote, 0, 9) || outside(r.SnapIndex, 0, 9999) || outside(r.SnapTerm, 0, r.Term) {
		return impl.ErrRange
	}
	if code := storeDataFault(r.Snap); code != impl.OK {
		return code
	}
	if r.SnapIndex == 0 && r.SnapTerm+int64(len(r.Snap)) > 0 || r.SnapIndex > 0 && r.SnapTerm == 0 {
		return impl.ErrForm
	}
	if code := plainLogFault(r.Log); code != impl.OK {
		return code
	}
	for i, e := range r.Log {
		if e.Index != r.SnapIndex+1+int64(i) || outside(e.Term, r.SnapTerm, r.Term) {
			return impl.ErrForm
		}
	}
	return impl.OK
}

// knownTerms tells the term of each index that a store still knows.
func knownTerms(r impl.Raft) map[int64]int64 {
	terms := map[int64]int64{r.SnapIndex: r.SnapTerm}
	for _, e := range r.Log {
		terms[e.Index] = e.Term
	}
	return terms
}

func lastIndex(r impl.Raft) int64 {
	last := r.SnapIndex
	for _, e := range r.Log {
		last = e.Index
	}
	return last
}

func entriesAbove(log []impl.Entry, index int64) []impl.Entry {
	var list []impl.Entry
	for _, e := range log {
		if e.Index > index {
			list = append(list, e)
		}
	}
	return list
}

func storeHard(r impl.Raft, term int64, vote int64) impl.RaftResult {
	over := term < r.Term || term == r.Term && r.Vote != 0 && vote != r.Vote
	code := firstCode(storeFault(r), notSo(outside(term, 0, 999) || outside(vote, 0, 9), impl.ErrRange), notSo(over, impl.ErrOld))
	if code != impl.OK {
		return impl.RaftResult{Code: code}
	}
	r.Term, r.Vote = term, vote
	return impl.RaftResult{Raft: r}
}

func storeTermAt(r impl.Raft, index int64) impl.IntResult {
	code := firstCode(storeFault(r), notSo(index < r.SnapIndex, impl.ErrOld), notSo(index > lastIndex(r), impl.ErrNone))
	if code != impl.OK {
		return impl.IntResult{Code: code}
	}
	return impl.IntResult{Value: knownTerms(r)[index]}
}

func storeEntriesFrom(r impl.Raft, index int64, n int64) impl.EntriesResult {
	code := firstCode(storeFault(r), notSo(outside(n, 0, 14), impl.ErrRange),
		notSo(index <= r.SnapIndex, impl.ErrOld), notSo(index > lastIndex(r)+1, impl.ErrNone))
	if code != impl.OK {
		return impl.EntriesResult{Code: code}
	}
	list := entriesAbove(r.Log, index-1)
	for int64(len(list)) > n {
		list = list[:len(list)-1]
	}
	return impl.EntriesResult{Entries: list}
}

// storeForm takes a list without a fault; numbers are held against each other as they are, none is reckoned with.
func storeForm(r impl.Raft, index int64, term int64, list []impl.Entry) int64 {
	for _, e := range list {
		if e.Term < term || e.Term > r.Term {
			return impl.ErrForm
		}
	}
	return notSo(len(list) > 0 && (index == math.MaxInt64 || list[0].Index != index+1), impl.ErrForm)
}

func storeAppend(r impl.Raft, index int64, term int64, list []impl.Entry) impl.RaftResult {
	code := firstCode(storeFault(r), plainLogFault(list), storeForm(r, index, term, list), storeTermAt(r, index).Code)
	if code == impl.OK {
		code = notSo(knownTerms(r)[index] != term, impl.ErrState)
	}
	if code != impl.OK {
		return impl.RaftResult{Code: code}
	}
	known := knownTerms(r)
	for i, e := range list {
		if there, ok := known[e.Index]; ok && there == e.Term {
			continue
		}
		r.Log = slices.Concat(copyLog(r.Log[:e.Index-r.SnapIndex-1]), list[i:])
		break
	}
	if len(r.Log) > 14 {
		return impl.RaftResult{Code: impl.ErrFull}
	}
	return impl.RaftResult{Raft: r}
}

func storeCompact(r impl.Raft, index int64, data []int64) impl.RaftResult {
	code := firstCode(storeFault(r), storeDataFault(data), notSo(index <= r.SnapIndex, impl.ErrOld), storeTermAt(r, index).Code)
	if code != impl.OK {
		return impl.RaftResult{Code: code}
	}
	return impl.RaftResult{Raft: impl.Raft{
		Term: r.Term, Vote: r.Vote, SnapIndex: index, SnapTerm: knownTerms(r)[index], Snap: data, Log: entriesAbove(r.Log, index),
	}}
}

func storeInstall(r impl.Raft, index int64, term int64, data []int64) impl.RaftResult {
	code := firstCode(storeFault(r), storeDataFault(data), notSo(outside(index, 1, 9999) || outside(term, 1, r.Term), impl.ErrRange),
		notSo(index <= r.SnapIndex, impl.ErrOld), notSo(term < r.SnapTerm, impl.ErrState))
	if code != impl.OK {
		return impl.RaftResult{Code: code}
	}
	next := impl.Raft{Term: r.Term, Vote: r.Vote, SnapIndex: index, SnapTerm: term, Snap: data}
	if there, ok := knownTerms(r)[index]; ok && there == term {
		next.Log = entriesAbove(r.Log, index)
	}
	return impl.RaftResult{Raft: next}
}

// plainSameRafts leans on nothing of the program.
func plainSameRafts(a impl.Raft, b impl.Raft) bool {
	return a.Term == b.Term && a.Vote == b.Vote && a.SnapIndex == b.SnapIndex && a.SnapTerm == b.SnapTerm &&
		slices.Equal(a.Snap, b.Snap) && plainSameEntries(a.Log, b.Log)
}

func wantRaftResult(t *testing.T, name string, r impl.RaftResult, want impl.RaftResult) {
	t.Helper()
	if r.Code != want.Code || !plainSameRafts(r.Raft, want.Raft) {
		t.Fatalf("%s: %v, want %v", name, r, want)
	}
}

func wantRaft(t *testing.T, name string, r impl.RaftResult, want impl.Raft) {
	t.Helper()
	wantRaftResult(t, name, r, impl.RaftResult{Raft: want})
}

func wantRaftCode(t *testing.T, name string, r impl.RaftResult, code int64) {
	t.Helper()
	wantCode(t, name, r.Code, plainSameRafts(r.Raft, impl.Raft{}), code)
}

// knownStore has a snapshot and four entries of three terms.
func knownStore() impl.Raft {
	return impl.Raft{Term: 6, Vote: 2, SnapIndex: 3, SnapTerm: 2, Snap: []int64{7, 8}, Log: []impl.Entry{
		entryOf(4, 2, 40), entryOf(5, 3), entryOf(6, 3, 60, 61), entryOf(7, 5, 70),
	}}
}

// knownWith is the known store with one thing of it other.
func knownWith(change func(r *impl.Raft)) impl.Raft {
	r := knownStore()
	change(&r)
	return r
}

type raftCase struct {
	name string
	r    impl.Raft
	code int64
}

func raftCases() []raftCase {
	list := []raftCase{
		{"the zero value", impl.Raft{}, impl.OK},
		{"empty lists", impl.Raft{Snap: []int64{}, Log: []impl.Entry{}}, impl.OK},
		{"the known one", knownStore(), impl.OK},
		{"all at its greatest", impl.Raft{Term: 999, Vote: 9, SnapIndex: 9999, SnapTerm: 999, Snap: same(65535, 40)}, impl.OK},
		{"a vote in term 0", impl.Raft{Vote: 9}, impl.OK},
		{"an entry in term 0", impl.Raft{Log: hollowLog(1, 1)}, impl.ErrForm},
		{"an entry of term 3 in term 2", impl.Raft{Term: 2, Log: hollowLog(1, 1)}, impl.ErrForm},
		{"an entry of term 3 in term 3", impl.Raft{Term: 3, Log: hollowLog(1, 1)}, impl.OK},
		{"13 entries", impl.Raft{Term: 3, Log: hollowLog(1, 13)}, impl.OK},
		{"14 entries", impl.Raft{Term: 3, Log: hollowLog(1, 14)}, impl.OK},
		{"15 entries", impl.Raft{Term: 3, Log: hollowLog(1, 15)}, impl.ErrMany},
		{"14 entries from 2 on", impl.Raft{Term: 3, Log: hollowLog(2, 14)}, impl.ErrForm},
		{"a first entry 0", impl.Raft{Term: 3, Log: hollowLog(0, 14)}, impl.ErrRange},
		{"14 entries up to 9999", impl.Raft{Term: 3, SnapIndex: 9985, SnapTerm: 3, Log: hollowLog(9986, 14)}, impl.OK},
		{"14 entries up to 10000", impl.Raft{Term: 3, SnapIndex: 9986, SnapTerm: 3, Log: hollowLog(9987, 14)}, impl.ErrRange},
		{"one entry behind 9998", impl.Raft{Term: 3, SnapIndex: 9998, SnapTerm: 1, Log: hollowLog(9999, 1)}, impl.OK},
		{"one entry behind 9999", impl.Raft{Term: 3, SnapIndex: 9999, SnapTerm: 1, Log: hollowLog(10000, 1)}, impl.ErrRange},
		{"9999 once more behind 9999", impl.Raft{Term: 3, SnapIndex: 9999, SnapTerm: 1, Log: hollowLog(9999, 1)}, impl.ErrForm},
		{"a snapshot at 0 with a term", impl.Raft{Term: 3, SnapTerm: 1}, impl.ErrForm},
		{"a snapshot at 0 with its term at Term", impl.Raft{Term: 3, SnapTerm: 3}, impl.ErrForm},
		{"a snapshot at 0 with a word", impl.Raft{Term: 3, Snap: []int64{5}}, impl.ErrForm},
		{"a snapshot at 0 with a word 0", impl.Raft{Term: 3, Snap: []int64{0}}, impl.ErrForm},
		{"a snapshot at 0 with a term and words", impl.Raft{Term: 3, SnapTerm: 1, Snap: []int64{5}}, impl.ErrForm},
		{"a snapshot at 1 without a term", impl.Raft{Term: 3, SnapIndex: 1}, impl.ErrForm},
		{"a snapshot at 1 with words and without a term", impl.Raft{Term: 3, SnapIndex: 1, Snap: []int64{5}}, impl.ErrForm},
		{"a snapshot at 1 without words", impl.Raft{Term: 3, SnapIndex: 1, SnapTerm: 1}, impl.OK},
		{"SnapTerm is one below Term", knownWith(func(r *impl.Raft) { r.SnapTerm, r.Log = 5, nil }), impl.OK},
		{"SnapTerm is Term", knownWith(func(r *impl.Raft) { r.SnapTerm, r.Log = 6, nil }), impl.OK},
		{"SnapTerm is above Term", knownWith(func(r *impl.Raft) { r.SnapTerm, r.Log = 7, nil }), impl.ErrRange},
		{"the log begins at the snapshot", knownWith(func(r *impl.Raft) { r.SnapIndex = 4 }), impl.ErrForm},
		{"the log leaves one out", knownWith(func(r *impl.Raft) { r.SnapIndex = 2 }), impl.ErrForm},
		{"the log without its first", knownWith(func(r *impl.Raft) { r.Log = r.Log[1:] }), impl.ErrForm},
		{"the log without its last", knownWith(func(r *impl.Raft) { r.Log = r.Log[:3] }), impl.OK},
		{"the first Term is one above SnapTerm", knownWith(func(r *impl.Raft) { r.SnapTerm = 1 }), impl.OK},
		{"the first Term is below SnapTerm", knownWith(func(r *impl.Raft) { r.SnapTerm = 3 }), impl.ErrForm},
		{"the last Term is Term", knownWith(func(r *impl.Raft) { r.Term = 5 }), impl.OK},
		{"the last Term is above Term", knownWith(func(r *impl.Raft) { r.Term = 4 }), impl.ErrForm},
		{"the last Term alone is above Term", knownWith(func(r *impl.Raft) { r.Log[3].Term = 7 }), impl.ErrForm},
		{"one entry, its Term above Term", impl.Raft{Term: 3, SnapIndex: 1, SnapTerm: 3, Log: []impl.Entry{entryOf(2, 4)}}, impl.ErrForm},
		{"one entry, its Term below SnapTerm", impl.Raft{Term: 3, SnapIndex: 1, SnapTerm: 3, Log: []impl.Entry{entryOf(2, 2)}}, impl.ErrForm},
		{"range ahead of many words", knownWith(func(r *impl.Raft) { r.Vote, r.Snap = 10, same(0, 41) }), impl.ErrRange},
		{"SnapTerm ahead of many words", knownWith(func(r *impl.Raft) { r.SnapTerm, r.Snap = 7, same(0, 41) }), impl.ErrRange},
		{"many words ahead of a word", knownWith(func(r *impl.Raft) { r.Snap = same(-1, 41) }), impl.ErrMany},
		{"many words ahead of a snapshot at 0", impl.Raft{Term: 3, Snap: same(0, 41)}, impl.ErrMany},
		{"a word ahead of a snapshot at 0", impl.Raft{Term: 3, Snap: []int64{-1}}, impl.ErrRange},
		{"a word ahead of many entries", knownWith(func(r *impl.Raft) { r.Snap, r.Log = []int64{65536}, hollowLog(4, 15) }), impl.ErrRange},
		{"a snapshot at 0 ahead of many entries", impl.Raft{Term: 3, SnapTerm: 1, Log: hollowLog(1, 15)}, impl.ErrForm},
		{"no term of a snapshot ahead of many entries", impl.Raft{Term: 3, SnapIndex: 1, Log: hollowLog(2, 15)}, impl.ErrForm},
		{"range ahead of a snapshot at 0", impl.Raft{Term: 3, Vote: 10, SnapTerm: 1}, impl.ErrRange},
		{"many entries ahead of where they begin", impl.Raft{Term: 3, Log: hollowLog(2, 15)}, impl.ErrMany},
		{"a word of an entry ahead of where they begin", impl.Raft{Term: 3, Log: []impl.Entry{entryOf(2, 1, -1)}}, impl.ErrRange},
		{"data of an entry ahead of a Term above Term", impl.Raft{Term: 3, Log: []impl.Entry{entryOf(1, 4, same(0, 7)...)}}, impl.ErrMany},
		{"an entry's own Term ahead of that of the store", impl.Raft{Term: 3, Log: []impl.Entry{entryOf(1, 1000)}}, impl.ErrRange},
		{"the least int64 everywhere", extremeStore(math.MinInt64), impl.ErrRange},
		{"the greatest int64 everywhere", extremeStore(math.MaxInt64), impl.ErrRange},
		{"an entry as small as can be", knownWith(func(r *impl.Raft) { r.Log[0].Index = math.MinInt64 }), impl.ErrRange},
		{"an entry as great as can be", knownWith(func(r *impl.Raft) { r.Log[3].Term = math.MaxInt64 }), impl.ErrRange},
	}
	list = append(list, raftNumberCases()...)
	for _, c := range logCases() {
		if c.code != impl.OK {
			list = append(list, raftCase{"the log: " + c.name, impl.Raft{Term: 999, Log: c.log}, c.code})
		}
	}
	return list
}

func extremeStore(n int64) impl.Raft {
	return impl.Raft{Term: n, Vote: n, SnapIndex: n, SnapTerm: n, Snap: []int64{n}, Log: []impl.Entry{entryOf(n, n, n)}}
}

// raftNumberCases are stores of which one number or the count of words is at an edge.
func raftNumberCases() []raftCase {
	var list []raftCase
	for _, c := range numberCases(0, 999) {
		list = append(list, raftCase{"Term is " + c.name, impl.Raft{Term: c.number}, c.code})
	}
	for _, c := range numberCases(0, 9) {
		list = append(list, raftCase{"Vote is " + c.name, impl.Raft{Term: 3, Vote: c.number}, c.code})
	}
	for _, c := range numberCases(1, 9999) {
		if c.number != 0 {
			list = append(list, raftCase{"SnapIndex is " + c.name, impl.Raft{Term: 3, SnapIndex: c.number, SnapTerm: 1}, c.code})
		}
	}
	for _, c := range numberCases(1, 3) {
		if c.number != 0 {
			list = append(list, raftCase{"SnapTerm is " + c.name, impl.Raft{Term: 3, SnapIndex: 1, SnapTerm: c.number}, c.code})
		}
	}
	for _, c := range dataCases() {
		list = append(list, raftCase{"Snap: " + c.name, impl.Raft{Term: 3, SnapIndex: 1, SnapTerm: 1, Snap: c.words}, c.code})
	}
	return list
}

// dataCases are words of a snapshot, of each length and of words at their edges.
func dataCases() []wordsCase {
	list := []wordsCase{
		{"no words", nil, impl.OK},
		{"an empty list", []int64{}, impl.OK},
		{"one word", []int64{5}, impl.OK},
		{"39 words", run(0, 39), impl.OK},
		{"40 words", run(0, 40), impl.OK},
		{"41 words", run(0, 41), impl.ErrMany},
		{"64 words", run(0, 64), impl.ErrMany},
		{"65 words", run(0, 65), impl.ErrMany},
		{"1000 words", run(0, 1000), impl.ErrMany},
		{"41 words below 0", same(-1, 41), impl.ErrMany},
		{"41 words, the last too great", append(same(0, 40), 65536), impl.ErrMany},
		{"40 words, the first below 0", append([]int64{-1}, same(0, 39)...), impl.ErrRange},
		{"40 words, the last too great", append(same(0, 39), 65536), impl.ErrRange},
	}
	for _, c := range numberCases(0, 65535) {
		list = append(list, wordsCase{"a word is " + c.name, []int64{1, c.number}, c.code})
	}
	return list
}

// Each function asks the fault first, whatever else is wrong.
func TestRaftFault(t *testing.T) {
	for _, c := range raftCases() {
		if code := impl.RaftFault(c.r); code != c.code {
			t.Errorf("%s: %d, want %d", c.name, code, c.code)
		}
		if code := storeFault(c.r); code != c.code {
			t.Errorf("%s: the plain one says %d, want %d", c.name, code, c.code)
		}
		if c.code == impl.OK {
			continue
		}
		for _, n := range []int64{math.MinInt64, -1, 0, 1, 4, 10000, math.MaxInt64} {
			wantRaftCode(t, c.name, impl.SetHard(c.r, n, n), c.code)
			wantInt(t, c.name, impl.TermAt(c.r, n), impl.IntResult{Code: c.code})
			wantEntriesCode(t, c.name, impl.EntriesFrom(c.r, n, n), c.code)
			for _, list := range [][]impl.Entry{nil, {{}}, hollowLog(4, 1), hollowLog(1, 15)} {
				wantRaftCode(t, c.name, impl.AppendRaft(c.r, n, n, list), c.code)
			}
			for _, data := range [][]int64{nil, {-1}, same(0, 41)} {
				wantRaftCode(t, c.name, impl.CompactRaft(c.r, n, data), c.code)
				wantRaftCode(t, c.name, impl.InstallRaft(c.r, n, n, data), c.code)
			}
		}
	}
}

// Random stores of which some things are spoilt, so that there are several faults at once.
func TestRaftFaultOfMany(t *testing.T) {
	rnd := rand.New(rand.NewSource(101))
	seen := map[int64]int{}
	for range 60000 {
		r := randomStore(rnd)
		for range rnd.Intn(4) {
			spoilStore(rnd, &r)
		}
		got, want := impl.RaftFault(r), storeFault(r)
		if got != want {
			t.Fatalf("%v: %d, want %d", r, got, want)
		}
		seen[got]++
	}
	for _, code := range []int64{impl.OK, impl.ErrMany, impl.ErrRange, impl.ErrForm} {
		if seen[code] < 1000 {
			t.Errorf("code %d came just %d times", code, seen[code])
		}
	}
}

// spoilStore changes one thing of a store, which may come to a fault or to none.
func spoilStore(rnd *rand.Rand, r *impl.Raft) {
	near := func(n int64, edges ...int64) int64 { return append(edges, n-1, n+1)[rnd.Intn(len(edges)+2)] }
	switch rnd.Intn(7) {
	case 0:
		r.Term = near(r.Term, -1, 0, 999, 1000)
	case 1:
		r.Vote = near(r.Vote, -1, 0, 9, 10)
	case 2:
		r.SnapIndex = near(r.SnapIndex, -1, 0, 9999, 10000)
	case 3:
		r.SnapTerm = near(r.SnapTerm, -1, 0, r.Term, r.Term+1)
	case 4:
		r.Snap = run(1, []int{0, 1, 40, 41}[rnd.Intn(4)])
	case 5:
		r.Snap = append(slices.Clone(r.Snap), near(3, -1, 0, 65535, 65536))
	case 6:
		r.Log = randomLog(rnd, rnd.Intn(17))
		for i := range r.Log {
			r.Log[i].Index = r.SnapIndex + 1 + int64(i)
		}
		if len(r.Log) > 0 {
			spoilEntry(rnd, &r.Log[rnd.Intn(len(r.Log))])
		}
	}
}

// storesToAsk are stores with and without a snapshot, a log, a vote, and faults.
func storesToAsk() []impl.Raft {
	return []impl.Raft{
		{},
		{Term: 3, Vote: 2},
		{Term: 999, Vote: 9},
		{Term: 3, SnapIndex: 5, SnapTerm: 3, Snap: []int64{1}},
		{Term: 9, Vote: 1, SnapIndex: 9999, SnapTerm: 4},
		{Term: 3, Log: hollowLog(1, 1)},
		{Term: 4, Log: hollowLog(1, 14)},
		{Term: 4, SnapIndex: 9985, SnapTerm: 2, Log: hollowLog(9986, 14)},
		knownStore(),
		{Term: 1000},
		{Term: 3, SnapTerm: 1},
		{Term: 3, Log: hollowLog(1, 15)},
		extremeStore(math.MaxInt64),
	}
}

func edgeNumbers() []int64 {
	return []int64{
		math.MinInt64, math.MinInt64 + 1, -1, 0, 1, 2, 3, 4, 5, 6, 7, 8, 9, 10, 13, 14, 15,
		998, 999, 1000, 9984, 9985, 9986, 9987, 9998, 9999, 10000, 65536, 1<<32 + 4, math.MaxInt64 - 1, math.MaxInt64,
	}
}

// All of these are asked of the plain ones, which name their codes in the order of the chapter.
func TestStoreCodesInTheirOrder(t *testing.T) {
	lists := [][]impl.Entry{nil, {entryOf(4, 3, 9)}, {entryOf(8, 5), entryOf(9, 6)}, {entryOf(9999, 4)}, {entryOf(1, 1)}, hollowLog(2, 14), hollowLog(4, 15), {{}}, {entryOf(8, 999)}}
	words := [][]int64{nil, {5}, same(9, 41), {65536}, same(-1, 41)}
	for _, r := range storesToAsk() {
		for _, a := range edgeNumbers() {
			wantInt(t, "TermAt", impl.TermAt(r, a), storeTermAt(r, a))
			for _, data := range words {
				wantRaftResult(t, "CompactRaft", impl.CompactRaft(r, a, data), storeCompact(r, a, data))
			}
			for _, b := range edgeNumbers() {
				wantRaftResult(t, "SetHard", impl.SetHard(r, a, b), storeHard(r, a, b))
				wantEntriesResult(t, "EntriesFrom", impl.EntriesFrom(r, a, b), storeEntriesFrom(r, a, b))
				for _, list := range lists {
					wantRaftResult(t, "AppendRaft", impl.AppendRaft(r, a, b, list), storeAppend(r, a, b, list))
				}
				for _, data := range words {
					wantRaftResult(t, "InstallRaft", impl.InstallRaft(r, a, b, data), storeInstall(r, a, b, data))
				}
			}
		}
	}
}

func wantEntriesResult(t *testing.T, name string, r impl.EntriesResult, want impl.EntriesResult) {
	t.Helper()
	if r.Code != want.Code || !plainSameEntries(r.Entries, want.Entries) {
		t.Fatalf("%s: %v, want %v", name, r, want)
	}
}

func TestSetHardCodes(t *testing.T) {
	for _, c := range numberCases(0, 999) {
		wantRaftCode(t, "term is "+c.name, impl.SetHard(impl.Raft{}, c.number, 0), c.code)
	}
	for _, c := range numberCases(0, 9) {
		wantRaftCode(t, "vote is "+c.name, impl.SetHard(impl.Raft{Term: 3}, 3, c.number), c.code)
	}
	wantRaftCode(t, "range ahead of what is over", impl.SetHard(knownStore(), -1, 2), impl.ErrRange)
	wantRaftCode(t, "vote ahead of what is over", impl.SetHard(knownStore(), 5, 10), impl.ErrRange)
	wantRaftCode(t, "another vote beyond its bounds", impl.SetHard(knownStore(), 6, -1), impl.ErrRange)
}

func TestDataOfASnapshotIsAsked(t *testing.T) {
	for _, c := range dataCases() {
		for _, index := range []int64{4, 7} {
			wantRaftCode(t, c.name, impl.CompactRaft(knownStore(), index, c.words), c.code)
			wantRaftCode(t, c.name, impl.InstallRaft(knownStore(), index, 6, c.words), c.code)
		}
		if c.code == impl.OK {
			continue
		}
		for _, index := range []int64{math.MinInt64, 0, 3, 8, 10000, math.MaxInt64} {
			wantRaftCode(t, "ahead of the index: "+c.name, impl.CompactRaft(knownStore(), index, c.words), c.code)
			wantRaftCode(t, "ahead of the index: "+c.name, impl.InstallRaft(knownStore(), index, 6, c.words), c.code)
			wantRaftCode(t, "ahead of the term: "+c.name, impl.InstallRaft(knownStore(), 4, index, c.words), c.code)
		}
	}
}

func TestInstallRaftCodes(t *testing.T) {
	r := knownStore()
	for _, c := range numberCases(1, 9999) {
		code := c.code
		if code == impl.OK && c.number <= 3 {
			code = impl.ErrOld
		}
		wantRaftCode(t, "index is "+c.name, impl.InstallRaft(r, c.number, 6, nil), code)
		wantRaftCode(t, "no store so far, index is "+c.name, impl.InstallRaft(impl.Raft{Term: 1}, c.number, 1, nil), c.code)
	}
	for _, c := range numberCases(1, 6) {
		code := c.code
		if code == impl.OK && c.number < 2 {
			code = impl.ErrState
		}
		wantRaftCode(t, "term is "+c.name, impl.InstallRaft(r, 5, c.number, nil), code)
		wantRaftCode(t, "no snapshot so far, term is "+c.name, impl.InstallRaft(impl.Raft{Term: 6}, 5, c.number, nil), c.code)
	}
	for _, c := range []struct {
		name  string
		index int64
		term  int64
		code  int64
	}{
		{"in term 0", 1, 0, impl.ErrRange},
		{"range of term ahead of what is over", 3, 0, impl.ErrRange},
		{"term above Term ahead of what is over", 3, 7, impl.ErrRange},
		{"range of index ahead of the term", 0, 1, impl.ErrRange},
		{"at the snapshot", 3, 2, impl.ErrOld},
		{"below the snapshot", 2, 2, impl.ErrOld},
		{"what is over ahead of a term below", 3, 1, impl.ErrOld},
		{"a term below that of the snapshot", 4, 1, impl.ErrState},
		{"a term below, above the log", 9, 1, impl.ErrState},
		{"the term of the snapshot", 4, 2, impl.OK},
		{"right behind the log", 8, 6, impl.OK},
	} {
		wantRaftCode(t, c.name, impl.InstallRaft(r, c.index, c.term, []int64{1}), c.code)
	}
}

func TestAppendRaftCodes(t *testing.T) {
	r, full := knownStore(), impl.Raft{Term: 4, Log: hollowLog(1, 14)}
	spoilt := []impl.Entry{entryOf(8, 5), entryOf(8, 5)}
	cases := []struct {
		name  string
		r     impl.Raft
		index int64
		term  int64
		list  []impl.Entry
		code  int64
	}{
		{"right behind the log", r, 7, 5, []impl.Entry{entryOf(8, 5)}, impl.OK},
		{"a fault of the list", r, 7, 5, spoilt, impl.ErrForm},
		{"15 in the list", r, 7, 5, hollowLog(8, 15), impl.ErrMany},
		{"the list's range ahead of its form", r, 9, 5, []impl.Entry{entryOf(8, 5, 65536)}, impl.ErrRange},
		{"the list's data ahead of its form", r, 9, 5, []impl.Entry{entryOf(8, 5, same(0, 7)...)}, impl.ErrMany},
		{"the list's fault ahead of what is over", r, 1, 5, hollowLog(2, 15), impl.ErrMany},
		{"the first is at index", r, 7, 5, []impl.Entry{entryOf(7, 5)}, impl.ErrForm},
		{"the first leaves one out", r, 7, 5, []impl.Entry{entryOf(9, 5)}, impl.ErrForm},
		{"the first has a Term below term", r, 7, 5, []impl.Entry{entryOf(8, 4)}, impl.ErrForm},
		{"the first has a Term above term", r, 7, 5, []impl.Entry{entryOf(8, 6)}, impl.OK},
		{"the last has a Term at Term", r, 7, 5, []impl.Entry{entryOf(8, 5), entryOf(9, 6)}, impl.OK},
		{"the last has a Term above Term", r, 7, 5, []impl.Entry{entryOf(8, 5), entryOf(9, 7)}, impl.ErrForm},
		{"form ahead of what is over", r, 2, 2, []impl.Entry{entryOf(4, 2)}, impl.ErrForm},
		{"form ahead of what is not there", r, 8, 5, []impl.Entry{entryOf(8, 5)}, impl.ErrForm},
		{"form ahead of another term", r, 7, 4, []impl.Entry{entryOf(9, 5)}, impl.ErrForm},
		{"below the snapshot", r, 2, 2, []impl.Entry{entryOf(3, 2)}, impl.ErrOld},
		{"below the snapshot, no entries", r, 2, 2, nil, impl.ErrOld},
		{"below 0", impl.Raft{}, -1, 0, nil, impl.ErrOld},
		{"as small as can be", r, math.MinInt64, 0, nil, impl.ErrOld},
		{"as small as can be, with an entry", r, math.MinInt64, 0, []impl.Entry{entryOf(1, 1)}, impl.ErrForm},
		{"above the log", r, 8, 5, []impl.Entry{entryOf(9, 5)}, impl.ErrNone},
		{"above the log, no entries", r, 8, 5, nil, impl.ErrNone},
		{"as great as can be", r, math.MaxInt64, 0, nil, impl.ErrNone},
		{"as great as can be, with an entry", r, math.MaxInt64, 0, []impl.Entry{entryOf(1, 1)}, impl.ErrForm},
		{"what is over ahead of another term", r, 2, 77, nil, impl.ErrOld},
		{"what is not there ahead of another term", r, 8, 77, nil, impl.ErrNone},
		{"at the snapshot, its term", r, 3, 2, nil, impl.OK},
		{"at the snapshot, another term", r, 3, 1, nil, impl.ErrState},
		{"at the snapshot, a term above its own", r, 3, 3, nil, impl.ErrState},
		{"no snapshot, term 0", impl.Raft{}, 0, 0, nil, impl.OK},
		{"no snapshot, term 1", impl.Raft{}, 0, 1, nil, impl.ErrState},
		{"no snapshot, term -1", impl.Raft{}, 0, -1, nil, impl.ErrState},
		{"in the log, a term below", r, 5, 2, []impl.Entry{entryOf(6, 3)}, impl.ErrState},
		{"in the log, a term above", r, 5, 4, nil, impl.ErrState},
		{"at the last index, another term", r, 7, 6, nil, impl.ErrState},
		{"a term as great as can be", r, 7, math.MaxInt64, nil, impl.ErrState},
		{"a term as small as can be", r, 7, math.MinInt64, nil, impl.ErrState},
		{"another term ahead of no room", full, 14, 2, hollowLog(15, 1), impl.ErrState},
		{"no room for one", full, 14, 3, hollowLog(15, 1), impl.ErrFull},
		{"no room for the last", full, 1, 3, hollowLog(2, 14), impl.ErrFull},
		{"no room behind what it takes away", full, 1, 3, append([]impl.Entry{entryOf(2, 4)}, raisedLog(3, 13, 4)...), impl.ErrFull},
		{"just room for it", full, 0, 0, raisedLog(1, 14, 4), impl.OK},
		{"all is there already", full, 0, 0, hollowLog(1, 14), impl.OK},
		{"full, no entries", full, 14, 3, nil, impl.OK},
		{"full, the last one is another", full, 13, 3, raisedLog(14, 1, 4), impl.OK},
	}
	for _, c := range cases {
		wantRaftCode(t, c.name, impl.AppendRaft(c.r, c.index, c.term, c.list), c.code)
	}
	for _, c := range logCases() {
		if c.code != impl.OK {
			wantRaftCode(t, "the list: "+c.name, impl.AppendRaft(impl.Raft{Term: 999}, 77, 77, c.log), c.code)
		}
	}
}

// raisedLog gives n entries of one Term from first on, each with a word of its own.
func raisedLog(first int64, n int, term int64) []impl.Entry {
	log := hollowLog(first, n)
	for i := range log {
		log[i].Term, log[i].Data = term, []int64{log[i].Index}
	}
	return log
}

func TestNilAndEmptyAreTheSameToStores(t *testing.T) {
	bare := impl.Raft{Snap: []int64{}, Log: []impl.Entry{}}
	if impl.RaftFault(bare) != impl.OK || !impl.SameRafts(bare, impl.Raft{}) || !impl.SameRafts(impl.Raft{}, bare) {
		t.Error("empty lists are not no lists")
	}
	one := impl.Raft{Term: 3, Log: []impl.Entry{{Index: 1, Term: 3, Data: []int64{}}}}
	if !impl.SameRafts(one, impl.Raft{Term: 3, Log: hollowLog(1, 1)}) {
		t.Error("empty data is not no data")
	}
	wantRaft(t, "SetHard", impl.SetHard(bare, 1, 1), impl.Raft{Term: 1, Vote: 1})
	wantRaft(t, "AppendRaft", impl.AppendRaft(bare, 0, 0, []impl.Entry{}), impl.Raft{})
	wantRaft(t, "AppendRaft of what is there", impl.AppendRaft(one, 0, 0, hollowLog(1, 1)), one)
	wantRaft(t, "CompactRaft", impl.CompactRaft(one, 1, []int64{}), impl.CompactRaft(one, 1, nil).Raft)
	wantRaft(t, "InstallRaft", impl.InstallRaft(one, 2, 3, []int64{}), impl.InstallRaft(one, 2, 3, nil).Raft)
	wantEntries(t, "EntriesFrom", impl.EntriesFrom(bare, 1, 14))
	wantEntries(t, "EntriesFrom with no data", impl.EntriesFrom(one, 1, 14), entryOf(1, 3))
}
