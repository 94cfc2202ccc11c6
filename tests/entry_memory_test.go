package tests

import (
	"math"
	"testing"

	"loop.example/g00311/impl"
)

// Promise 1: the functions of entries change no argument, their answers are new memory and hang on the arguments alone.

type entryArgs struct {
	Entry impl.Entry
	Log   []impl.Entry
	Other []impl.Entry
	Words []int64
	Index int64
}

func entryArgsList() []entryArgs {
	entries := []impl.Entry{
		{},
		entryOf(2, 1),
		entryOf(2, 1, 9),
		entryOf(9999, 999, run(3, 6)...),
		entryOf(2, 1, run(3, 7)...),
		entryOf(2, 1, 5, 65536),
		entryOf(math.MinInt64, math.MaxInt64, math.MinInt64, math.MaxInt64),
	}
	logs := [][]impl.Entry{
		nil,
		{entryOf(2, 1, 9)},
		{entryOf(2, 1, 9), entryOf(3, 1), entryOf(4, 2, 8, 7)},
		{entryOf(2, 1, 9), entryOf(3, 1, 0), entryOf(4, 2, 8, 7)},
		{entryOf(2, 1, 9), entryOf(2, 1, 9)},
		hollowLog(1, 14),
		hollowLog(1, 15),
		{entryOf(math.MinInt64, math.MaxInt64, math.MinInt64)},
	}
	words := [][]int64{
		nil,
		{2, 1},
		{2, 1, 0},
		{2, 1, 1, 9},
		{2, 1, 6, 1, 2, 3, 4, 5, 6},
		{2, 1, 1},
		{2, 1, 1, 9, 9},
		{0, 1, 1, 9},
		{2, 1, 1, -1},
		same(0, 65),
		{math.MinInt64, math.MaxInt64, 1},
	}
	var list []entryArgs
	for _, e := range entries {
		for i, log := range logs {
			for k, other := range logs {
				list = append(list, entryArgs{e, log, other, words[(i+k)%len(words)], int64(i*k*100 - 5)})
			}
		}
	}
	return list
}

func entryCalls() []namedCall[entryArgs] {
	return []namedCall[entryArgs]{
		{"EntryFault", func(a entryArgs) any { return impl.EntryFault(a.Entry) }},
		{"LogFault", func(a entryArgs) any { return impl.LogFault(a.Log) }},
		{"PackEntry", func(a entryArgs) any { return impl.PackEntry(a.Entry) }},
		{"UnpackEntry", func(a entryArgs) any { return impl.UnpackEntry(a.Words) }},
		{"SlotFor", func(a entryArgs) any { return impl.SlotFor(a.Index) }},
		{"SameEntries", func(a entryArgs) any { return impl.SameEntries(a.Log, a.Other) }},
		{"CommonOf", func(a entryArgs) any { return impl.CommonOf(a.Log, a.Other) }},
	}
}

func TestEntryCallsKeepToTheirArguments(t *testing.T) {
	wantCallsApart(t, entryCalls(), entryArgsList())
}

// What was written and what was read may be written to, and neither hangs on the other any more.
func TestEntriesAreApartFromTheirWords(t *testing.T) {
	data := append(make([]int64, 0, 20), 5, 4, 3)
	e := impl.Entry{Index: 7, Term: 2, Data: data}
	words := impl.PackEntry(e)
	given := append(make([]int64, 0, 20), 7, 2, 3, 5, 4, 3)
	read := impl.UnpackEntry(given)
	wantNewMemory(t, "the words", words, e)
	wantNewMemory(t, "the entry", read, given)
	for i := range data {
		data[i] = -77
	}
	for i := range given {
		given[i] = -77
	}
	wantWords(t, "what was written", words, []int64{7, 2, 3, 5, 4, 3})
	wantEntries(t, "what was read", read, entryOf(7, 2, 5, 4, 3))
	read.Entries[0].Data = append(read.Entries[0].Data, 1)
	read.Entries[0].Data[0] = -77
	wantEntries(t, "read once more", impl.UnpackEntry(words.List), entryOf(7, 2, 5, 4, 3))
	wantWords(t, "as it was written", words, []int64{7, 2, 3, 5, 4, 3})
}

// One list that stands on both sides is held against itself, and stays as it is.
func TestAnArgumentMayStandTwice(t *testing.T) {
	log := roomyCopy([]impl.Entry{entryOf(2, 1, 9), entryOf(3, 1), entryOf(4, 2, 8, 7)})
	was := roomyCopy(log)
	if !impl.SameEntries(log, log) || impl.CommonOf(log, log) != 3 || impl.CommonOf(log, log[:2]) != 2 || impl.CommonOf(log[1:], log) != 0 {
		t.Error("a log is not the same as itself")
	}
	wantUnchanged(t, "both sides", log, was)
}
