package tests

import (
	"testing"

	"loop.example/g00311/impl"
)

// Promise 1: no argument is changed, an answer is new memory and hangs on the arguments alone.

type diskArgs struct {
	Disk             impl.Disk
	At, Pick         int64
	Old, Next, Picks []int64
}

func diskArgsList() []diskArgs {
	plain := impl.Disk{
		Blocks: [][]int64{run(1, 40), nil, run(100, 64), run(200, 3), run(700, 20)},
		Cache:  []impl.Put{{At: 2, Words: run(300, 64)}, {At: 1, Words: run(400, 5)}, {At: 2, Words: run(500, 10)}, {At: 0}, {At: 3, Words: run(600, 33)}},
	}
	wrong := impl.Disk{Blocks: [][]int64{{1, 2}}, Cache: []impl.Put{{At: 1, Words: []int64{3}}}}
	full := impl.Disk{Blocks: [][]int64{{1, 2}}, Cache: putsAt(0, 200)}
	var list []diskArgs
	for _, d := range []impl.Disk{{}, plain, wrong, full} {
		for at := int64(-1); at < 6; at++ {
			for pick := int64(-1); pick < 5; pick++ {
				list = append(list, diskArgs{d, at, pick, run(1, 40), run(50, 7), []int64{pick, 3, 2, 1}})
				list = append(list, diskArgs{d, at, pick, run(1, 3), run(50, 64), same(pick, 5)})
				list = append(list, diskArgs{d, at, pick, same(1, 65), []int64{-1}, same(1, 201)})
			}
		}
	}
	return list
}

func diskCalls() []namedCall[diskArgs] {
	return []namedCall[diskArgs]{
		{"DiskFault", func(a diskArgs) any { return impl.DiskFault(a.Disk) }},
		{"NewDisk", func(a diskArgs) any { return impl.NewDisk(a.At) }},
		{"PutBlock", func(a diskArgs) any { return impl.PutBlock(a.Disk, a.At, a.Next) }},
		{"BlockAt", func(a diskArgs) any { return impl.BlockAt(a.Disk, a.At) }},
		{"FlushDisk", func(a diskArgs) any { return impl.FlushDisk(a.Disk) }},
		{"CrashDisk", func(a diskArgs) any { return impl.CrashDisk(a.Disk, a.Picks) }},
		{"TearWords", func(a diskArgs) any { return impl.TearWords(a.Old, a.Next, a.Pick) }},
	}
}

func TestDiskCallsKeepToTheirArguments(t *testing.T) {
	wantCallsApart(t, diskCalls(), diskArgsList())
}

// One put whose words are handed in twice, and blocks that are one list: the answer still shares nothing.
func TestSharedArgumentsLeadToAnswersOfTheirOwn(t *testing.T) {
	words := run(1, 50)
	d := impl.Disk{Blocks: [][]int64{words, words}, Cache: []impl.Put{{At: 0, Words: words}, {At: 1, Words: words}}}
	for pick := range int64(4) {
		wantNewMemory(t, "CrashDisk", impl.CrashDisk(d, same(pick, 2)), d)
		wantNewMemory(t, "TearWords", impl.TearWords(words, words, pick), words)
	}
	wantNewMemory(t, "FlushDisk", impl.FlushDisk(d), d)
	wantNewMemory(t, "PutBlock", impl.PutBlock(d, 1, words), d, words)
	wantNewMemory(t, "BlockAt", impl.BlockAt(d, 1), d)
}
