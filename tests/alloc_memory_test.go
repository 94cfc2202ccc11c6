package tests

import (
	"math"
	"testing"

	"loop.example/g00311/impl"
)

// Promise 1: the functions of free blocks change no argument, their answers are new memory and hang on the arguments alone.

type mapArgs struct {
	Used []int64
	List []int64
	N    int64
}

func mapArgsList() []mapArgs {
	maps := [][]int64{
		nil,
		{3},
		{1, 1},
		{0, 1023},
		{1024, 0},
		{5, 9, 22},
		run(3, 19),
		run(4, 19),
		run(3, 20),
		run(3, 21),
		{6, 5},
		{5, 5},
		{math.MinInt64, 5, math.MaxInt64},
		same(1, 65),
	}
	var list []mapArgs
	for _, used := range maps {
		for _, other := range maps {
			for _, n := range []int64{math.MinInt64, -1, 0, 1, 3, 5, 19, 20, 21, math.MaxInt64} {
				list = append(list, mapArgs{used, other, n})
			}
		}
	}
	return list
}

func mapCalls() []namedCall[mapArgs] {
	return []namedCall[mapArgs]{
		{"MapFault", func(a mapArgs) any { return impl.MapFault(a.Used) }},
		{"PackMap", func(a mapArgs) any { return impl.PackMap(a.Used) }},
		{"UnpackMap", func(a mapArgs) any { return impl.UnpackMap(a.Used) }},
		{"TakeBlocks", func(a mapArgs) any { return impl.TakeBlocks(a.Used, a.N) }},
		{"FreeBlocks", func(a mapArgs) any { return impl.FreeBlocks(a.Used, a.List) }},
		{"IsUsed", func(a mapArgs) any { return impl.IsUsed(a.Used, a.N) }},
	}
}

func TestMapCallsKeepToTheirArguments(t *testing.T) {
	wantCallsApart(t, mapCalls(), mapArgsList())
}

// Where nothing changes the answer is a list of its own all the same.
func TestMapsThatStayAreNewMemory(t *testing.T) {
	for _, used := range [][]int64{{5, 9}, run(3, 20), append(make([]int64, 0, 40), 5, 9)} {
		none := impl.TakeBlocks(used, 0)
		wantTaken(t, "none are taken", none, nil, used)
		wantNewMemory(t, "none are taken", none, used)
		left := impl.FreeBlocks(used, nil)
		wantWords(t, "none are given back", left, used)
		wantNewMemory(t, "none are given back", left, used)
	}
}

// A map of none has just the blocks that were taken; they are told twice, each time in memory of their own.
func TestTakenAndUsedAreApart(t *testing.T) {
	for n := range int64(21) {
		r := impl.TakeBlocks(nil, n)
		wantTaken(t, "of none", r, run(3, int(n)), run(3, int(n)))
		wantNewMemory(t, "of none", r)
		for i := range r.List {
			r.List[i] = -77
		}
		wantTaken(t, "List is written to", impl.TakeResult{Used: r.Used}, nil, run(3, int(n)))
	}
}

// One list may be given as the map and as what is given back.
func TestOneListIsMapAndList(t *testing.T) {
	all := run(3, 20)
	wantWords(t, "all given back", impl.FreeBlocks(all, all), nil)
	wantWords(t, "the first ones given back", impl.FreeBlocks(all, all[:7]), run(10, 13))
	wantWords(t, "the last ones given back", impl.FreeBlocks(all, all[7:]), run(3, 7))
	wantWords(t, "all as it was", impl.IntsResult{List: all}, run(3, 20))
}
