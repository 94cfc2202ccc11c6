package tests

import (
	"math"
	"math/rand"
	"slices"
	"testing"

	"loop.example/g00311/impl"
)

// Promise 11: a term does not fall, and in one term there is one vote; behind an append the log has the list, what was ahead of it stays, and what was there already as well; behind a compaction what is above it is as it was, and below it there is just the snapshot; behind an install the snapshot is there word by word, and what is kept of the log goes with it.

// randomStore has no fault; a log of none up to 14 entries, at the beginning, in between or at the end of all indexes.
func randomStore(rnd *rand.Rand) impl.Raft {
	r := impl.Raft{Vote: rnd.Int63n(10)}
	n := rnd.Intn(15)
	if rnd.Intn(3) > 0 {
		r.SnapIndex = []int64{1, 1 + rnd.Int63n(9985), 9999 - int64(n)}[rnd.Intn(3)]
		r.SnapTerm = 1 + rnd.Int63n(5)
		r.Snap = run(rnd.Int63n(9), rnd.Intn(41))
	}
	term := max(r.SnapTerm, 1)
	for i := range n {
		e := randomEntry(rnd)
		term += rnd.Int63n(4) / 3
		e.Index, e.Term = r.SnapIndex+1+int64(i), term
		r.Log = append(r.Log, e)
	}
	r.Term = []int64{term, term + 1, 999}[rnd.Intn(3)]
	return r
}

// risingTerms gives all lists of up to n terms, least to most, none of which falls.
func risingTerms(least int64, most int64, n int) [][]int64 {
	all := [][]int64{nil}
	if n == 0 {
		return all
	}
	for term := least; term <= most; term++ {
		for _, rest := range risingTerms(term, most, n-1) {
			all = append(all, slices.Concat([]int64{term}, rest))
		}
	}
	return all
}

func logOfTerms(first int64, terms []int64, word int64) []impl.Entry {
	var log []impl.Entry
	for i, term := range terms {
		log = append(log, entryOf(first+int64(i), term, word))
	}
	return log
}

// smallStores are all of up to three entries in terms up to 3, without a snapshot and with one at 1 and at 2.
func smallStores() []impl.Raft {
	var list []impl.Raft
	for term := range int64(4) {
		for snap := range int64(3) {
			for snapTerm := min(snap, 1); snapTerm <= min(snap*3, term); snapTerm++ {
				for _, terms := range risingTerms(max(snapTerm, 1), term, 3) {
					r := impl.Raft{Term: term, Vote: term % 3, SnapIndex: snap, SnapTerm: snapTerm}
					r.Snap, r.Log = same(9, int(snap)), logOfTerms(snap+1, terms, 1)
					list = append(list, r)
				}
			}
		}
	}
	return list
}

func TestSmallStoresHaveNoFault(t *testing.T) {
	stores := smallStores()
	for _, r := range stores {
		if impl.RaftFault(r) != impl.OK {
			t.Fatal(r)
		}
	}
	if len(stores) != 139 {
		t.Errorf("%d stores", len(stores))
	}
}

// wantHardKept asks that a term does not fall, and that in one term there is one vote.
func wantHardKept(t *testing.T, was impl.Raft, now impl.Raft) {
	t.Helper()
	if now.Term < was.Term || now.Term == was.Term && was.Vote != 0 && now.Vote != was.Vote {
		t.Fatalf("term and vote were %d, %d, then %d, %d", was.Term, was.Vote, now.Term, now.Vote)
	}
	if impl.RaftFault(now) != impl.OK {
		t.Fatalf("%v: a fault", now)
	}
}

// wantHardSame asks that all but the snapshot and the log is as it was.
func wantHardSame(t *testing.T, was impl.Raft, now impl.Raft) {
	t.Helper()
	wantHardKept(t, was, now)
	if now.Term != was.Term || now.Vote != was.Vote {
		t.Fatalf("term and vote were %d, %d, then %d, %d", was.Term, was.Vote, now.Term, now.Vote)
	}
}

func entryAt(r impl.Raft, index int64) impl.Entry {
	for _, e := range r.Log {
		if e.Index == index {
			return e
		}
	}
	return impl.Entry{}
}

// wantAppended asks what is promised behind an append that told no code.
func wantAppended(t *testing.T, was impl.Raft, index int64, list []impl.Entry, now impl.Raft) {
	t.Helper()
	wantHardSame(t, was, now)
	if now.SnapIndex != was.SnapIndex || now.SnapTerm != was.SnapTerm || !slices.Equal(now.Snap, was.Snap) {
		t.Fatalf("%v, then %v: the snapshot is another", was, now)
	}
	for i := was.SnapIndex + 1; i <= index; i++ {
		if !plainSameEntry(entryAt(now, i), entryAt(was, i)) {
			t.Fatalf("%v, then %v: what was ahead of %d did not stay", was, now, index)
		}
	}
	there := true
	for _, e := range list {
		there = there && entryAt(was, e.Index).Term == e.Term
		want := e
		if there {
			want = entryAt(was, e.Index)
		}
		if !plainSameEntry(entryAt(now, e.Index), want) {
			t.Fatalf("%v, then %v: at %d there is not %v", was, now, e.Index, want)
		}
	}
	if there && !plainSameRafts(was, now) {
		t.Fatalf("%v, then %v: all was there already", was, now)
	}
	if !there && lastIndex(now) != list[len(list)-1].Index {
		t.Fatalf("%v, then %v: behind the list there is something", was, now)
	}
}

// wantSnapped asks that the snapshot is there word by word, and that nothing else is left below it.
func wantSnapped(t *testing.T, now impl.Raft, index int64, term int64, data []int64) {
	t.Helper()
	if now.SnapIndex != index || now.SnapTerm != term || !slices.Equal(now.Snap, data) {
		t.Fatalf("%v: the snapshot is not %d, %d, %v", now, index, term, data)
	}
	wantInt(t, "at the snapshot", impl.TermAt(now, index), impl.IntResult{Value: term})
	wantInt(t, "below it", impl.TermAt(now, index-1), impl.IntResult{Code: impl.ErrOld})
	wantEntriesCode(t, "from it on", impl.EntriesFrom(now, index, 14), impl.ErrOld)
}

func wantCompacted(t *testing.T, was impl.Raft, index int64, data []int64, now impl.Raft) {
	t.Helper()
	wantHardSame(t, was, now)
	wantSnapped(t, now, index, entryAt(was, index).Term, data)
	wantEntries(t, "above it", impl.EntriesFrom(now, index+1, 14), impl.EntriesFrom(was, index+1, 14).Entries...)
	for i := index; i <= lastIndex(was)+1; i++ {
		wantInt(t, "as it was", impl.TermAt(now, i), impl.TermAt(was, i))
	}
}

func wantInstalled(t *testing.T, was impl.Raft, index int64, term int64, data []int64, now impl.Raft) {
	t.Helper()
	wantHardSame(t, was, now)
	wantSnapped(t, now, index, term, data)
	if entryAt(was, index).Term == term {
		wantEntries(t, "what is kept", impl.EntriesFrom(was, index+1, 14), now.Log...)
		return
	}
	if len(now.Log) != 0 {
		t.Fatalf("%v, then %v: what is left does not go with the snapshot", was, now)
	}
}

func TestSetHardByHand(t *testing.T) {
	none := knownWith(func(r *impl.Raft) { r.Vote = 0 })
	cases := []struct {
		name string
		r    impl.Raft
		term int64
		vote int64
		code int64
	}{
		{"the same term, the same vote", knownStore(), 6, 2, impl.OK},
		{"the same term, another vote", knownStore(), 6, 3, impl.ErrOld},
		{"the same term, no vote", knownStore(), 6, 0, impl.ErrOld},
		{"the same term, the first vote", none, 6, 3, impl.OK},
		{"the same term, no vote still", none, 6, 0, impl.OK},
		{"a term below, the same vote", knownStore(), 5, 2, impl.ErrOld},
		{"a term below, another vote", knownStore(), 5, 3, impl.ErrOld},
		{"a term below, no vote", knownStore(), 5, 0, impl.ErrOld},
		{"a term below, no vote so far", none, 5, 0, impl.ErrOld},
		{"a term below, the first vote", none, 5, 3, impl.ErrOld},
		{"term 0", knownStore(), 0, 2, impl.ErrOld},
		{"a term above, the same vote", knownStore(), 7, 2, impl.OK},
		{"a term above, another vote", knownStore(), 7, 3, impl.OK},
		{"a term above, no vote", knownStore(), 7, 0, impl.OK},
		{"a term above, no vote so far", none, 7, 0, impl.OK},
		{"the greatest of both", knownStore(), 999, 9, impl.OK},
		{"the greatest term stays", impl.Raft{Term: 999, Vote: 9}, 999, 9, impl.OK},
		{"the greatest term, another vote", impl.Raft{Term: 999, Vote: 9}, 999, 8, impl.ErrOld},
		{"a vote in term 0", impl.Raft{}, 0, 1, impl.OK},
		{"another vote in term 0", impl.Raft{Vote: 1}, 0, 2, impl.ErrOld},
		{"nothing at all", impl.Raft{}, 0, 0, impl.OK},
	}
	for _, c := range cases {
		r := impl.SetHard(c.r, c.term, c.vote)
		wantRaftCode(t, c.name, r, c.code)
		if c.code == impl.OK {
			want := c.r
			want.Term, want.Vote = c.term, c.vote
			wantRaft(t, c.name, r, want)
		}
	}
}

// All terms and votes up to 3 behind one another: a term does not fall, and in one term there is one vote.
func TestInOneTermThereIsOneVote(t *testing.T) {
	var try func(r impl.Raft, votes map[int64]int64, deep int)
	try = func(r impl.Raft, votes map[int64]int64, deep int) {
		for term := range int64(4) {
			for vote := range int64(4) {
				next := impl.SetHard(r, term, vote)
				wantRaftResult(t, "SetHard", next, storeHard(r, term, vote))
				if next.Code != impl.OK {
					continue
				}
				wantHardKept(t, r, next.Raft)
				if given := votes[term]; given != 0 && given != vote {
					t.Fatalf("in term %d there was the vote %d, then %d", term, given, vote)
				}
				if deep > 0 {
					was := votes[term]
					votes[term] = vote
					try(next.Raft, votes, deep-1)
					votes[term] = was
				}
			}
		}
	}
	try(impl.Raft{}, map[int64]int64{}, 4)
}

func TestTermAtByHand(t *testing.T) {
	r, bare := knownStore(), impl.Raft{Term: 6, SnapIndex: 3, SnapTerm: 2}
	log, none := impl.Raft{Term: 3, Log: hollowLog(1, 2)}, impl.Raft{Term: 3}
	last := impl.Raft{Term: 3, SnapIndex: 9985, SnapTerm: 2, Log: hollowLog(9986, 14)}
	over, above := impl.IntResult{Code: impl.ErrOld}, impl.IntResult{Code: impl.ErrNone}
	cases := []struct {
		name  string
		r     impl.Raft
		index int64
		want  impl.IntResult
	}{
		{"below the snapshot", r, 2, over},
		{"at 0 below the snapshot", r, 0, over},
		{"at the snapshot", r, 3, impl.IntResult{Value: 2}},
		{"the first entry", r, 4, impl.IntResult{Value: 2}},
		{"the second entry", r, 5, impl.IntResult{Value: 3}},
		{"the third entry", r, 6, impl.IntResult{Value: 3}},
		{"the last entry", r, 7, impl.IntResult{Value: 5}},
		{"above the last index", r, 8, above},
		{"as small as can be", r, math.MinInt64, over},
		{"as great as can be", r, math.MaxInt64, above},
		{"a snapshot alone, below", bare, 2, over},
		{"a snapshot alone", bare, 3, impl.IntResult{Value: 2}},
		{"a snapshot alone, above", bare, 4, above},
		{"a log alone, below 0", log, -1, over},
		{"a log alone, at 0", log, 0, impl.IntResult{}},
		{"a log alone, its first", log, 1, impl.IntResult{Value: 3}},
		{"a log alone, its last", log, 2, impl.IntResult{Value: 3}},
		{"a log alone, above", log, 3, above},
		{"nothing, below 0", none, -1, over},
		{"nothing, at 0", none, 0, impl.IntResult{}},
		{"nothing, above", none, 1, above},
		{"the greatest index", last, 9999, impl.IntResult{Value: 3}},
		{"above the greatest index", last, 10000, above},
		{"the snapshot below the greatest index", last, 9985, impl.IntResult{Value: 2}},
	}
	for _, c := range cases {
		wantInt(t, c.name, impl.TermAt(c.r, c.index), c.want)
	}
}

func TestEntriesFromByHand(t *testing.T) {
	r, bare := knownStore(), impl.Raft{Term: 6, SnapIndex: 3, SnapTerm: 2}
	full := impl.Raft{Term: 3, Log: hollowLog(1, 14)}
	cases := []struct {
		name  string
		r     impl.Raft
		index int64
		n     int64
		code  int64
		want  []impl.Entry
	}{
		{"n -1", r, 4, -1, impl.ErrRange, nil},
		{"n 0", r, 4, 0, impl.OK, nil},
		{"n 1", r, 4, 1, impl.OK, r.Log[:1]},
		{"n 3", r, 4, 3, impl.OK, r.Log[:3]},
		{"as many as there are", r, 4, 4, impl.OK, r.Log},
		{"one more than there are", r, 4, 5, impl.OK, r.Log},
		{"n 14", r, 4, 14, impl.OK, r.Log},
		{"n 15", r, 4, 15, impl.ErrRange, nil},
		{"n as small as can be", r, 4, math.MinInt64, impl.ErrRange, nil},
		{"n as great as can be", r, 4, math.MaxInt64, impl.ErrRange, nil},
		{"n ahead of what is over", r, 3, 15, impl.ErrRange, nil},
		{"n ahead of what is not there", r, 9, -1, impl.ErrRange, nil},
		{"below the snapshot", r, 2, 1, impl.ErrOld, nil},
		{"at the snapshot", r, 3, 1, impl.ErrOld, nil},
		{"at the snapshot, n 0", r, 3, 0, impl.ErrOld, nil},
		{"in the log", r, 6, 1, impl.OK, r.Log[2:3]},
		{"in the log up to its end", r, 6, 2, impl.OK, r.Log[2:]},
		{"at the last index", r, 7, 14, impl.OK, r.Log[3:]},
		{"at the last index, n 0", r, 7, 0, impl.OK, nil},
		{"at the last index and 1", r, 8, 14, impl.OK, nil},
		{"at the last index and 1, n 0", r, 8, 0, impl.OK, nil},
		{"at the last index and 2", r, 9, 14, impl.ErrNone, nil},
		{"at the last index and 2, n 0", r, 9, 0, impl.ErrNone, nil},
		{"as small as can be", r, math.MinInt64, 1, impl.ErrOld, nil},
		{"as great as can be", r, math.MaxInt64, 1, impl.ErrNone, nil},
		{"a snapshot alone, at it", bare, 3, 1, impl.ErrOld, nil},
		{"a snapshot alone, behind it", bare, 4, 1, impl.OK, nil},
		{"a snapshot alone, at it and 2", bare, 5, 1, impl.ErrNone, nil},
		{"nothing, at 0", impl.Raft{}, 0, 1, impl.ErrOld, nil},
		{"nothing, at 1", impl.Raft{}, 1, 1, impl.OK, nil},
		{"nothing, at 2", impl.Raft{}, 2, 1, impl.ErrNone, nil},
		{"14 of 14", full, 1, 14, impl.OK, full.Log},
		{"13 of 14", full, 1, 13, impl.OK, full.Log[:13]},
		{"the last of 14", full, 14, 14, impl.OK, full.Log[13:]},
		{"behind all of 14", full, 15, 14, impl.OK, nil},
	}
	for _, c := range cases {
		wantEntriesResult(t, c.name, impl.EntriesFrom(c.r, c.index, c.n), impl.EntriesResult{Code: c.code, Entries: c.want})
	}
}

// What a list has that is in the log already has other data here, so that it is seen which of both stays.
func TestAppendRaftByHand(t *testing.T) {
	r := knownStore()
	four, five, six, seven := r.Log[0], r.Log[1], r.Log[2], r.Log[3]
	cases := []struct {
		name  string
		index int64
		term  int64
		list  []impl.Entry
		want  []impl.Entry
	}{
		{"no entries, at the snapshot", 3, 2, nil, r.Log},
		{"no entries, in the log", 5, 3, nil, r.Log},
		{"no entries, at the last index", 7, 5, nil, r.Log},
		{"behind the end", 7, 5, []impl.Entry{entryOf(8, 5, 1)}, []impl.Entry{four, five, six, seven, entryOf(8, 5, 1)}},
		{"two behind the end", 7, 5, []impl.Entry{entryOf(8, 5), entryOf(9, 6, 2)}, []impl.Entry{four, five, six, seven, entryOf(8, 5), entryOf(9, 6, 2)}},
		{"all is there already", 3, 2, []impl.Entry{entryOf(4, 2, 1), entryOf(5, 3, 1), entryOf(6, 3, 1), entryOf(7, 5, 1)}, r.Log},
		{"the first is there already", 3, 2, []impl.Entry{entryOf(4, 2, 1)}, r.Log},
		{"one in between is there already", 4, 2, []impl.Entry{entryOf(5, 3, 1)}, r.Log},
		{"the last is there already", 6, 3, []impl.Entry{entryOf(7, 5, 1)}, r.Log},
		{"a beginning is there already", 5, 3, []impl.Entry{entryOf(6, 3, 1), entryOf(7, 5, 1), entryOf(8, 6, 1)}, []impl.Entry{four, five, six, seven, entryOf(8, 6, 1)}},
		{"a beginning is there, then it is another", 4, 2, []impl.Entry{entryOf(5, 3, 1), entryOf(6, 4, 1)}, []impl.Entry{four, five, entryOf(6, 4, 1)}},
		{"what is behind goes, also where it is the same", 4, 2, []impl.Entry{entryOf(5, 2, 1), entryOf(6, 3, 1), entryOf(7, 5, 1)}, []impl.Entry{four, entryOf(5, 2, 1), entryOf(6, 3, 1), entryOf(7, 5, 1)}},
		{"it takes all away", 3, 2, []impl.Entry{entryOf(4, 6, 1)}, []impl.Entry{entryOf(4, 6, 1)}},
		{"it takes away what is behind", 4, 2, []impl.Entry{entryOf(5, 4, 1)}, []impl.Entry{four, entryOf(5, 4, 1)}},
		{"it takes away the last", 6, 3, []impl.Entry{entryOf(7, 4, 1)}, []impl.Entry{four, five, six, entryOf(7, 4, 1)}},
		{"a lower term takes away as well", 6, 3, []impl.Entry{entryOf(7, 3, 1)}, []impl.Entry{four, five, six, entryOf(7, 3, 1)}},
	}
	for _, c := range cases {
		want := r
		want.Log = c.want
		next := impl.AppendRaft(r, c.index, c.term, c.list)
		wantRaft(t, c.name, next, want)
		wantAppended(t, r, c.index, c.list, next.Raft)
		wantRaft(t, c.name+", once more", impl.AppendRaft(next.Raft, c.index, c.term, c.list), want)
	}
}

// How many fit: logs of each length, and lists of each length behind each place, there already or not.
func TestAppendRaftUpToItsRoom(t *testing.T) {
	for n := range 15 {
		for _, snap := range []int64{0, 5, 9985} {
			r := impl.Raft{Term: 4, SnapIndex: snap, SnapTerm: min(snap, 3), Log: hollowLog(snap+1, n)}
			for at := range n + 1 {
				index := snap + int64(at)
				for more := range 15 {
					for _, term := range []int64{3, 4} {
						list := raisedLog(index+1, more, term)
						next := impl.AppendRaft(r, index, knownTerms(r)[index], list)
						wantRaftResult(t, "AppendRaft", next, storeAppend(r, index, knownTerms(r)[index], list))
						code := notSo(at+more > 14, impl.ErrFull)
						if index+int64(more) > 9999 {
							code = impl.ErrRange
						}
						wantRaftCode(t, "AppendRaft", next, code)
						if code == impl.OK {
							wantAppended(t, r, index, list, next.Raft)
						}
					}
				}
			}
		}
	}
}

func TestCompactRaftByHand(t *testing.T) {
	r, bare := knownStore(), impl.Raft{Term: 6, SnapIndex: 3, SnapTerm: 2, Snap: []int64{7}}
	five := impl.Raft{Term: 3, Log: hollowLog(1, 5)}
	cases := []struct {
		name  string
		r     impl.Raft
		index int64
		data  []int64
		code  int64
		term  int64
		left  []impl.Entry
	}{
		{"as in the document", five, 3, []int64{1}, impl.OK, 3, hollowLog(4, 2)},
		{"the first of five", five, 1, nil, impl.OK, 3, hollowLog(2, 4)},
		{"all of five", five, 5, run(0, 40), impl.OK, 3, nil},
		{"at 0", five, 0, nil, impl.ErrOld, 0, nil},
		{"above five", five, 6, nil, impl.ErrNone, 0, nil},
		{"below the snapshot", r, 2, nil, impl.ErrOld, 0, nil},
		{"at the snapshot", r, 3, nil, impl.ErrOld, 0, nil},
		{"the first", r, 4, []int64{9}, impl.OK, 2, r.Log[1:]},
		{"in the log", r, 6, []int64{9, 8, 7}, impl.OK, 3, r.Log[3:]},
		{"in the log, no words", r, 6, nil, impl.OK, 3, r.Log[3:]},
		{"at the last index", r, 7, same(65535, 40), impl.OK, 5, nil},
		{"above the last index", r, 8, nil, impl.ErrNone, 0, nil},
		{"as small as can be", r, math.MinInt64, nil, impl.ErrOld, 0, nil},
		{"as great as can be", r, math.MaxInt64, nil, impl.ErrNone, 0, nil},
		{"a snapshot alone, at it", bare, 3, nil, impl.ErrOld, 0, nil},
		{"a snapshot alone, above it", bare, 4, nil, impl.ErrNone, 0, nil},
		{"nothing, at 0", impl.Raft{}, 0, nil, impl.ErrOld, 0, nil},
		{"nothing, at 1", impl.Raft{}, 1, nil, impl.ErrNone, 0, nil},
	}
	for _, c := range cases {
		next := impl.CompactRaft(c.r, c.index, c.data)
		wantRaftCode(t, c.name, next, c.code)
		if c.code == impl.OK {
			wantRaft(t, c.name, next, impl.Raft{Term: c.r.Term, Vote: c.r.Vote, SnapIndex: c.index, SnapTerm: c.term, Snap: c.data, Log: c.left})
			wantCompacted(t, c.r, c.index, c.data, next.Raft)
			wantRaftCode(t, c.name+", once more", impl.CompactRaft(next.Raft, c.index, c.data), impl.ErrOld)
		}
	}
}

func TestInstallRaftByHand(t *testing.T) {
	r := knownStore()
	cases := []struct {
		name  string
		r     impl.Raft
		index int64
		term  int64
		data  []int64
		left  []impl.Entry
	}{
		{"the first, its term", r, 4, 2, []int64{9}, r.Log[1:]},
		{"the first, a term above", r, 4, 3, []int64{9}, nil},
		{"in the log, its term", r, 5, 3, nil, r.Log[2:]},
		{"in the log, a term below", r, 5, 2, nil, nil},
		{"in the log, a term above", r, 5, 5, run(0, 40), nil},
		{"in the log, Term", r, 6, 6, nil, nil},
		{"the last, its term", r, 7, 5, []int64{9}, nil},
		{"the last, another term", r, 7, 6, []int64{9}, nil},
		{"right behind the log", r, 8, 5, []int64{9, 8}, nil},
		{"above the log", r, 9999, 6, same(65535, 40), nil},
		{"above the log, the term of the snapshot", r, 9999, 2, nil, nil},
		{"nothing so far", impl.Raft{Term: 1}, 1, 1, []int64{0}, nil},
		{"nothing so far, the greatest index", impl.Raft{Term: 999}, 9999, 999, nil, nil},
		{"no snapshot so far", impl.Raft{Term: 3, Log: hollowLog(1, 14)}, 1, 3, []int64{5}, hollowLog(2, 13)},
		{"no snapshot so far, all", impl.Raft{Term: 3, Log: hollowLog(1, 14)}, 14, 3, nil, nil},
		{"no snapshot so far, a term below", impl.Raft{Term: 3, Log: hollowLog(1, 14)}, 1, 1, nil, nil},
	}
	for _, c := range cases {
		next := impl.InstallRaft(c.r, c.index, c.term, c.data)
		wantRaft(t, c.name, next, impl.Raft{Term: c.r.Term, Vote: c.r.Vote, SnapIndex: c.index, SnapTerm: c.term, Snap: c.data, Log: c.left})
		wantInstalled(t, c.r, c.index, c.term, c.data, next.Raft)
		wantRaftCode(t, c.name+", once more", impl.InstallRaft(next.Raft, c.index, c.term, c.data), impl.ErrOld)
	}
}

// A snapshot of one's own and the same one from elsewhere come to the same.
func TestInstallOfAnEntryIsACompaction(t *testing.T) {
	rnd := rand.New(rand.NewSource(102))
	for range 3000 {
		r := randomStore(rnd)
		data := run(rnd.Int63n(65000), rnd.Intn(41))
		for _, e := range r.Log {
			wantRaft(t, "installed", impl.InstallRaft(r, e.Index, e.Term, data), impl.CompactRaft(r, e.Index, data).Raft)
		}
	}
}

// Each small store, each list of up to three entries behind each index: what was there, what is another, what goes on.
func TestAppendToEachSmallStore(t *testing.T) {
	lists := risingTerms(1, 4, 3)
	appended := 0
	for _, r := range smallStores() {
		for index := int64(-1); index <= 6; index++ {
			for term := range int64(5) {
				for _, terms := range lists {
					list := logOfTerms(index+1, terms, 2)
					next := impl.AppendRaft(r, index, term, list)
					wantRaftResult(t, "AppendRaft", next, storeAppend(r, index, term, list))
					if next.Code == impl.OK {
						wantAppended(t, r, index, list, next.Raft)
						appended++
					}
				}
			}
		}
	}
	if appended < 1000 {
		t.Errorf("just %d appends told no code", appended)
	}
}

func TestSnapEachSmallStore(t *testing.T) {
	for _, r := range smallStores() {
		for index := int64(-1); index <= 7; index++ {
			wantInt(t, "TermAt", impl.TermAt(r, index), storeTermAt(r, index))
			for n := int64(-1); n <= 5; n++ {
				wantEntriesResult(t, "EntriesFrom", impl.EntriesFrom(r, index, n), storeEntriesFrom(r, index, n))
			}
			data := run(index+2, int(index)+1)
			compacted := impl.CompactRaft(r, index, data)
			wantRaftResult(t, "CompactRaft", compacted, storeCompact(r, index, data))
			if compacted.Code == impl.OK {
				wantCompacted(t, r, index, data, compacted.Raft)
			}
			for term := int64(-1); term <= 4; term++ {
				installed := impl.InstallRaft(r, index, term, data)
				wantRaftResult(t, "InstallRaft", installed, storeInstall(r, index, term, data))
				if installed.Code == impl.OK {
					wantInstalled(t, r, index, term, data, installed.Raft)
				}
			}
		}
	}
}

// randomStep does one thing to a store that told no fault, and asks what is promised behind it; the store stays where there is a code.
func randomStep(t *testing.T, rnd *rand.Rand, r impl.Raft, seen map[int64]int) impl.Raft {
	t.Helper()
	index, term := r.SnapIndex-1+rnd.Int63n(int64(len(r.Log))+4), r.Term+1-rnd.Int63n(3)
	data := run(rnd.Int63n(9), rnd.Intn(42))
	var next, want impl.RaftResult
	switch rnd.Intn(8) {
	case 0:
		vote := rnd.Int63n(4)
		next, want = impl.SetHard(r, term, vote), storeHard(r, term, vote)
	case 1:
		next, want = impl.CompactRaft(r, index, data), storeCompact(r, index, data)
		if next.Code == impl.OK {
			wantCompacted(t, r, index, data, next.Raft)
		}
	case 2:
		next, want = impl.InstallRaft(r, index, term, data), storeInstall(r, index, term, data)
		if next.Code == impl.OK {
			wantInstalled(t, r, index, term, data, next.Raft)
		}
	default:
		list := randomGoOn(rnd, r, index)
		there := knownTerms(r)[index]
		next, want = impl.AppendRaft(r, index, there, list), storeAppend(r, index, there, list)
		if next.Code == impl.OK {
			wantAppended(t, r, index, list, next.Raft)
		}
	}
	wantRaftResult(t, "one step", next, want)
	seen[next.Code]++
	if next.Code != impl.OK {
		return r
	}
	wantHardKept(t, r, next.Raft)
	return next.Raft
}

// randomGoOn gives entries behind an index, often those that are there, sometimes with another Term.
func randomGoOn(rnd *rand.Rand, r impl.Raft, index int64) []impl.Entry {
	list := copyLog(entriesAbove(r.Log, index))
	term := max(r.Term, 1)
	for range rnd.Intn(4) {
		list = append(list, entryOf(index+1+int64(len(list)), term, run(rnd.Int63n(9), rnd.Intn(7))...))
	}
	if len(list) > 0 && rnd.Intn(2) == 0 {
		from := rnd.Intn(len(list))
		for i := from; i < len(list); i++ {
			list[i].Term = term
		}
		list[from].Data = run(77, rnd.Intn(7))
	}
	return list[:min(len(list), 1+rnd.Intn(15))]
}

// Many steps behind one another, from the empty store on.
func TestManyStepsOfAStore(t *testing.T) {
	rnd := rand.New(rand.NewSource(103))
	seen := map[int64]int{}
	for range 300 {
		r := impl.Raft{}
		for range 150 {
			r = randomStep(t, rnd, r, seen)
		}
	}
	for _, code := range []int64{impl.OK, impl.ErrForm, impl.ErrMany, impl.ErrRange, impl.ErrNone, impl.ErrOld, impl.ErrFull, impl.ErrState} {
		if seen[code] < 100 {
			t.Errorf("code %d came just %d times", code, seen[code])
		}
	}
}

// Random stores, one step each.
func TestOneStepOfManyStores(t *testing.T) {
	rnd := rand.New(rand.NewSource(104))
	for range 20000 {
		r := randomStore(rnd)
		if impl.RaftFault(r) != impl.OK {
			t.Fatal(r)
		}
		randomStep(t, rnd, r, map[int64]int{})
	}
}

// wantSame asks SameRafts both ways round.
func wantSame(t *testing.T, name string, a impl.Raft, b impl.Raft, want bool) {
	t.Helper()
	if impl.SameRafts(a, b) != want || impl.SameRafts(b, a) != want {
		t.Errorf("%s: the same: %v, want %v", name, !want, want)
	}
}

func TestSameRaftsByHand(t *testing.T) {
	changes := []struct {
		name   string
		change func(r *impl.Raft)
	}{
		{"Term", func(r *impl.Raft) { r.Term++ }},
		{"Vote", func(r *impl.Raft) { r.Vote++ }},
		{"SnapIndex", func(r *impl.Raft) { r.SnapIndex++ }},
		{"SnapTerm", func(r *impl.Raft) { r.SnapTerm++ }},
		{"Term and Vote crosswise", func(r *impl.Raft) { r.Term, r.Vote = r.Vote, r.Term }},
		{"SnapIndex and SnapTerm crosswise", func(r *impl.Raft) { r.SnapIndex, r.SnapTerm = r.SnapTerm, r.SnapIndex }},
		{"the first word", func(r *impl.Raft) { r.Snap[0]++ }},
		{"the last word", func(r *impl.Raft) { r.Snap[1]++ }},
		{"words crosswise", func(r *impl.Raft) { slices.Reverse(r.Snap) }},
		{"a word more", func(r *impl.Raft) { r.Snap = append(r.Snap, 0) }},
		{"a word less", func(r *impl.Raft) { r.Snap = r.Snap[:1] }},
		{"no words", func(r *impl.Raft) { r.Snap = nil }},
		{"an entry more", func(r *impl.Raft) { r.Log = append(r.Log, entryOf(8, 5)) }},
		{"an entry of all 0 more", func(r *impl.Raft) { r.Log = append(r.Log, impl.Entry{}) }},
		{"the last entry less", func(r *impl.Raft) { r.Log = r.Log[:3] }},
		{"the first entry less", func(r *impl.Raft) { r.Log = r.Log[1:] }},
		{"no entries", func(r *impl.Raft) { r.Log = nil }},
		{"entries crosswise", func(r *impl.Raft) { r.Log[1], r.Log[2] = r.Log[2], r.Log[1] }},
		{"a word of an entry", func(r *impl.Raft) { r.Log[2].Data[1]++ }},
		{"Term by 2 to the 32", func(r *impl.Raft) { r.Term += 1 << 32 }},
		{"a word by 2 to the 16", func(r *impl.Raft) { r.Snap[0] += 1 << 16 }},
	}
	wantSame(t, "all the same", knownStore(), knownStore(), true)
	wantSame(t, "nothing", impl.Raft{}, impl.Raft{}, true)
	wantSame(t, "nothing and something", impl.Raft{}, knownStore(), false)
	wantSame(t, "faults are not asked", extremeStore(math.MinInt64), extremeStore(math.MinInt64), true)
	wantSame(t, "faults are held against each other", extremeStore(math.MinInt64), extremeStore(math.MaxInt64), false)
	many := impl.Raft{Term: -5, Snap: same(3, 1000), Log: hollowLog(1, 1000)}
	wantSame(t, "more than a store has", many, impl.Raft{Term: -5, Snap: same(3, 1000), Log: hollowLog(1, 1000)}, true)
	wantSame(t, "more by one", many, impl.Raft{Term: -5, Snap: same(3, 1001), Log: hollowLog(1, 1000)}, false)
	for _, c := range changes {
		wantSame(t, c.name, knownStore(), knownWith(c.change), false)
		wantSame(t, c.name+", twice", knownWith(c.change), knownWith(c.change), true)
	}
	for at := range knownStore().Log {
		for kind := range 6 {
			other := knownWith(func(r *impl.Raft) { r.Log[at] = changedEntry(r.Log[at], kind) })
			wantSame(t, "one entry", knownStore(), other, false)
		}
	}
}

// All pairs of small stores: those alone are the same that stand at one place.
func TestSameRaftsOfSmallStores(t *testing.T) {
	a, b := smallStores(), smallStores()
	for i := range a {
		for k := range b {
			wantSame(t, "small stores", a[i], b[k], i == k)
		}
	}
}
