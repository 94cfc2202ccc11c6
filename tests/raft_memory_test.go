package tests

import (
	"math"
	"testing"

	"loop.example/g00311/impl"
)

// Promise 1: the functions of the store of a node change no argument, their answers are new memory and hang on the arguments alone.

type raftArgs struct {
	Raft  impl.Raft
	Other impl.Raft
	Index int64
	Term  int64
	Vote  int64
	Count int64
	List  []impl.Entry
	Data  []int64
}

func raftArgsList() []raftArgs {
	stores := []impl.Raft{
		{},
		knownStore(),
		{Term: 6, Log: []impl.Entry{entryOf(1, 2, 5), entryOf(2, 2, 6, 7)}},
		{Term: 6, Vote: 1, SnapIndex: 7, SnapTerm: 5, Snap: run(3, 40)},
		{Term: 4, Log: raisedLog(1, 14, 3)},
		{Term: 3, Snap: []int64{5}, Log: raisedLog(1, 2, 3)},
		extremeStore(math.MinInt64),
	}
	lists := [][]impl.Entry{
		nil,
		{entryOf(4, 2, 9), entryOf(5, 3, 9)},
		{entryOf(5, 3, 9), entryOf(6, 4, 9, 8)},
		{entryOf(8, 6, 9), entryOf(9, 6, 8)},
		{entryOf(15, 4, 9)},
		{entryOf(2, 2, 9), entryOf(2, 2, 9)},
	}
	words := [][]int64{nil, {5}, run(1, 40), run(1, 41), {65536}}
	places := []struct{ index, term int64 }{{-1, 0}, {0, 0}, {1, 2}, {3, 2}, {4, 2}, {5, 3}, {7, 5}, {8, 6}, {14, 3}, {9999, 6}}
	var list []raftArgs
	for i, r := range stores {
		for k, place := range places {
			for n, entries := range lists {
				other := stores[(i+k)%len(stores)]
				list = append(list, raftArgs{r, other, place.index, place.term, int64(n), int64(k + n), entries, words[(k+n)%len(words)]})
			}
		}
	}
	return list
}

func raftCalls() []namedCall[raftArgs] {
	return []namedCall[raftArgs]{
		{"RaftFault", func(a raftArgs) any { return impl.RaftFault(a.Raft) }},
		{"SetHard", func(a raftArgs) any { return impl.SetHard(a.Raft, a.Term, a.Vote) }},
		{"SetHard above", func(a raftArgs) any { return impl.SetHard(a.Raft, 7, a.Vote) }},
		{"AppendRaft", func(a raftArgs) any { return impl.AppendRaft(a.Raft, a.Index, a.Term, a.List) }},
		{"CompactRaft", func(a raftArgs) any { return impl.CompactRaft(a.Raft, a.Index, a.Data) }},
		{"InstallRaft", func(a raftArgs) any { return impl.InstallRaft(a.Raft, a.Index, a.Term, a.Data) }},
		{"TermAt", func(a raftArgs) any { return impl.TermAt(a.Raft, a.Index) }},
		{"EntriesFrom", func(a raftArgs) any { return impl.EntriesFrom(a.Raft, a.Index, a.Count) }},
		{"SameRafts", func(a raftArgs) any { return impl.SameRafts(a.Raft, a.Other) }},
	}
}

func TestRaftCallsKeepToTheirArguments(t *testing.T) {
	wantCallsApart(t, raftCalls(), raftArgsList())
}

// Where nothing changes the answer is new memory all the same: the words of the snapshot, the log, the data of each entry.
func TestAStoreThatStaysIsNewMemory(t *testing.T) {
	r := roomyCopy(knownStore())
	list := roomyCopy([]impl.Entry{entryOf(6, 3, 1), entryOf(7, 5, 2)})
	stays := []struct {
		name string
		next impl.RaftResult
	}{
		{"the same term and vote", impl.SetHard(r, 6, 2)},
		{"no entries", impl.AppendRaft(r, 7, 5, nil)},
		{"all is there already", impl.AppendRaft(r, 5, 3, list)},
		{"its own entries", impl.AppendRaft(r, 3, 2, r.Log)},
	}
	for _, c := range stays {
		wantRaft(t, c.name, c.next, knownStore())
		wantNewMemory(t, c.name, c.next, r, list)
	}
	wantUnchanged(t, "the store", r, roomyCopy(knownStore()))
}

// A store that is handed in as list or data of itself is copied all the same, and no list of the answer is a piece of another one.
func TestAStoreMayStandTwice(t *testing.T) {
	r := roomyCopy(knownStore())
	entries := impl.EntriesFrom(r, 4, 14)
	wantEntries(t, "all entries", entries, r.Log...)
	wantNewMemory(t, "all entries", entries, r)
	compacted := impl.CompactRaft(r, 5, r.Snap)
	wantRaft(t, "its own words", compacted, impl.Raft{Term: 6, Vote: 2, SnapIndex: 5, SnapTerm: 3, Snap: []int64{7, 8}, Log: r.Log[2:]})
	wantNewMemory(t, "its own words", compacted, r)
	installed := impl.InstallRaft(r, 5, 3, r.Log[2].Data)
	wantRaft(t, "an entry's words", installed, impl.Raft{Term: 6, Vote: 2, SnapIndex: 5, SnapTerm: 3, Snap: []int64{60, 61}, Log: r.Log[2:]})
	wantNewMemory(t, "an entry's words", installed, r)
	shared := r.Log[3].Data
	twice := impl.AppendRaft(r, 7, 5, []impl.Entry{{Index: 8, Term: 5, Data: shared}, {Index: 9, Term: 6, Data: shared}})
	wantNewMemory(t, "data that stands three times", twice, r)
	if !impl.SameRafts(r, r) {
		t.Error("a store is not the same as itself")
	}
	wantUnchanged(t, "the store", r, roomyCopy(knownStore()))
}

// What was given may be written to behind a call: the store that it answered hangs on it no more.
func TestStoresAreApartFromWhatWasGiven(t *testing.T) {
	list := []impl.Entry{entryOf(8, 5, 1, 2), entryOf(9, 6, 3)}
	data := append(make([]int64, 0, 60), 5, 4)
	r := knownStore()
	appended := impl.AppendRaft(r, 7, 5, list)
	installed := impl.InstallRaft(r, 6, 3, data)
	read := impl.EntriesFrom(r, 7, 1)
	list[0].Data[1], list[1].Term, data[0], r.Snap[0], r.Log[3].Data[0] = -77, -77, -77, -77, -77
	want := knownStore()
	want.Log = append(want.Log, entryOf(8, 5, 1, 2), entryOf(9, 6, 3))
	wantRaft(t, "what was appended", appended, want)
	wantRaft(t, "what was installed", installed, impl.Raft{Term: 6, Vote: 2, SnapIndex: 6, SnapTerm: 3, Snap: []int64{5, 4}, Log: []impl.Entry{entryOf(7, 5, 70)}})
	wantEntries(t, "what was read", read, entryOf(7, 5, 70))
}
