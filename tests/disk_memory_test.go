package tests

import (
	"reflect"
	"testing"

	"loop.example/g00311/impl"
)

// Promise 1: no argument is changed, an answer is new memory and hangs on the arguments alone.

type diskArgs struct {
	disk             impl.Disk
	at, pick         int64
	old, next, picks []int64
}

func diskArgsList() []diskArgs {
	plain := impl.Disk{
		Blocks: [][]int64{run(1, 40), nil, run(100, 64), run(200, 3), run(700, 20)},
		Cache:  []impl.Put{{At: 2, Words: run(300, 64)}, {At: 1, Words: run(400, 5)}, {At: 2, Words: run(500, 10)}, {At: 0}, {At: 3, Words: run(600, 33)}},
	}
	wrong := impl.Disk{Blocks: [][]int64{{1, 2}}, Cache: []impl.Put{{At: 1, Words: []int64{3}}}}
	full := impl.Disk{Blocks: [][]int64{{1, 2}}, Cache: putsAt(0, 200)}
	var list []diskArgs
	for _, d := range []impl.Disk{{}, plain, wrong, full} {
		for at := int64(-1); at < 6; at++ {
			for pick := int64(-1); pick < 5; pick++ {
				list = append(list, diskArgs{d, at, pick, run(1, 40), run(50, 7), []int64{pick, 3, 2, 1}})
				list = append(list, diskArgs{d, at, pick, run(1, 3), run(50, 64), same(pick, 5)})
				list = append(list, diskArgs{d, at, pick, same(1, 65), []int64{-1}, same(1, 201)})
			}
		}
	}
	return list
}

type diskCall struct {
	name string
	call func(a diskArgs) any
}

func diskCalls() []diskCall {
	return []diskCall{
		{"DiskFault", func(a diskArgs) any { return impl.DiskFault(a.disk) }},
		{"NewDisk", func(a diskArgs) any { return impl.NewDisk(a.at) }},
		{"PutBlock", func(a diskArgs) any { return impl.PutBlock(a.disk, a.at, a.next) }},
		{"BlockAt", func(a diskArgs) any { return impl.BlockAt(a.disk, a.at) }},
		{"FlushDisk", func(a diskArgs) any { return impl.FlushDisk(a.disk) }},
		{"CrashDisk", func(a diskArgs) any { return impl.CrashDisk(a.disk, a.picks) }},
		{"TearWords", func(a diskArgs) any { return impl.TearWords(a.old, a.next, a.pick) }},
	}
}

func roomyArgs(a diskArgs) diskArgs {
	return diskArgs{roomyCopy(a.disk), a.at, a.pick, roomyCopy(a.old), roomyCopy(a.next), roomyCopy(a.picks)}
}

func TestDiskCallsChangeNoArgument(t *testing.T) {
	for _, args := range diskArgsList() {
		now, was := roomyArgs(args), roomyArgs(args)
		for _, c := range diskCalls() {
			c.call(now)
			wantUnchanged(t, c.name, now.disk, was.disk)
			wantUnchanged(t, c.name, now.old, was.old)
			wantUnchanged(t, c.name, now.next, was.next)
			wantUnchanged(t, c.name, now.picks, was.picks)
		}
	}
}

func TestDiskAnswersAreNewMemory(t *testing.T) {
	for _, args := range diskArgsList() {
		given := roomyArgs(args)
		for _, c := range diskCalls() {
			first, second := c.call(given), c.call(given)
			wantNewMemory(t, c.name, first, given.disk, given.old, given.next, given.picks)
			wantNewMemory(t, c.name+" called twice", first, second)
		}
	}
}

// What is written into an answer must come to light nowhere else, not in a later answer either.
func TestDiskAnswersHangOnArgumentsAlone(t *testing.T) {
	for _, args := range diskArgsList() {
		for _, c := range diskCalls() {
			first := c.call(roomyArgs(args))
			want := roomyCopy(first)
			spoil(reflect.ValueOf(&first).Elem().Elem())
			for _, other := range diskCalls() {
				other.call(roomyArgs(args))
			}
			if again := roomyCopy(c.call(args)); !reflect.DeepEqual(again, want) {
				t.Fatalf("%s: %v, then %v", c.name, want, again)
			}
		}
	}
}

func spoil(v reflect.Value) {
	switch v.Kind() {
	case reflect.Struct:
		for i := range v.NumField() {
			spoil(v.Field(i))
		}
	case reflect.Slice:
		for i := range v.Len() {
			spoil(v.Index(i))
		}
	case reflect.Int64:
		if v.CanSet() {
			v.SetInt(-77)
		}
	}
}

// One put whose words are handed in twice, and blocks that are one list: the answer still shares nothing.
func TestSharedArgumentsLeadToAnswersOfTheirOwn(t *testing.T) {
	words := run(1, 50)
	d := impl.Disk{Blocks: [][]int64{words, words}, Cache: []impl.Put{{At: 0, Words: words}, {At: 1, Words: words}}}
	for pick := range int64(4) {
		wantNewMemory(t, "CrashDisk", impl.CrashDisk(d, same(pick, 2)), d)
		wantNewMemory(t, "TearWords", impl.TearWords(words, words, pick), words)
	}
	wantNewMemory(t, "FlushDisk", impl.FlushDisk(d), d)
	wantNewMemory(t, "PutBlock", impl.PutBlock(d, 1, words), d, words)
	wantNewMemory(t, "BlockAt", impl.BlockAt(d, 1), d)
}
