package tests

import (
	"math"
	"testing"

	"loop.example/g00311/impl"
)

// Promise 1: the functions of the world change no argument, their answers are new memory and hang on the arguments alone.

type worldArgs struct {
	World impl.World
	Disk  impl.Disk
	Op    impl.Op
	Steps int64
	Picks []int64
}

func worldArgsList() []worldArgs {
	cached, text, late := cachedWorld(70), knownWorld(6, 4), knownWorld(65000, 4)
	text.Disk.Blocks[26+23] = run(1, 3)
	other := knownWorld(6, 9)
	other.Raft.Log[2].Data[1] = 5
	sized := impl.World{Disk: storeDisk(7, 3, 22, sizedStore(11, 40, 5)), Raft: sizedStore(11, 40, 5)}
	worlds := []impl.World{
		{}, impl.NewWorld(5).World, knownWorld(6, 0), knownWorld(6, 9), knownWorld(6, 24), sized, cached, text, late, other,
		{Disk: knownWorld(6, 3).Disk, Raft: extremeStore(math.MaxInt64)},
	}
	ops := append(opsOfEachSort(), impl.Op{}, compactOp(5, run(1, 41)...), appendOp(16, 4, raisedLog(17, 4, 9)...), compactOp(13, run(1, 9)...), appendOp(1, 1, entryOf(2, 1, -1)))
	picks := [][]int64{nil, {1}, {2, 3}, same(1, 30), same(3, 201), {4}}
	var list []worldArgs
	for i, o := range ops {
		for k := i % 3; k < len(worlds); k += 3 {
			w := worlds[k]
			steps := impl.StepsOf(w, o).Value
			steps = []int64{steps, steps / 2, max(steps-1, 0), steps + 1}[(i+k)%4]
			disk := worlds[(i+k)%len(worlds)].Disk
			list = append(list, worldArgs{w, disk, o, steps, picks[(i+2*k)%len(picks)]})
		}
	}
	return list
}

func worldCalls() []namedCall[worldArgs] {
	return []namedCall[worldArgs]{
		{"WorldFault", func(a worldArgs) any { return impl.WorldFault(a.World) }},
		{"NewWorld", func(a worldArgs) any { return impl.NewWorld(a.Steps) }},
		{"OpWorld", func(a worldArgs) any { return impl.OpWorld(a.World, a.Op) }},
		{"CrashWorld", func(a worldArgs) any { return impl.CrashWorld(a.World, a.Op, a.Steps, a.Picks) }},
		{"OpenDisk", func(a worldArgs) any { return impl.OpenDisk(a.Disk) }},
		{"TidyWorld", func(a worldArgs) any { return impl.TidyWorld(a.World) }},
		{"StepsOf", func(a worldArgs) any { return impl.StepsOf(a.World, a.Op) }},
	}
}

func TestWorldCallsKeepToTheirArguments(t *testing.T) {
	wantCallsApart(t, worldCalls(), worldArgsList())
}

// What changes nothing answers the world that was given, in new memory: each block, the words of the snapshot, the log, the data of each entry.
func TestAWorldOfWhichNothingCameIsNewMemory(t *testing.T) {
	for _, n := range []int{0, 9, 24} {
		w := roomyCopy(knownWorld(6, n))
		for _, o := range []impl.Op{readOp(3), readOp(2), readOp(99), hardOp(6, 2), hardOp(5, 2), appendOp(7, 5), appendOp(7, 6), appendOp(3, 2, w.Raft.Log...), compactOp(3, 1), installOp(3, 2, 1)} {
			done := impl.OpWorld(w, o)
			wantWorldResult(t, "nothing came of it", done, impl.WorldResult{Reply: done.Reply, Value: done.Value, World: knownWorld(6, n)})
			wantNewMemory(t, "OpWorld", done, w, o)
			wantNewMemory(t, "CrashWorld", impl.CrashWorld(w, o, 0, nil), w, o)
		}
		wantNewMemory(t, "TidyWorld", impl.TidyWorld(w), w)
		wantNewMemory(t, "OpenDisk", impl.OpenDisk(w.Disk), w)
		wantUnchanged(t, "the world", w, roomyCopy(knownWorld(6, n)))
	}
	fresh := roomyCopy(impl.NewWorld(4).World)
	wantNewMemory(t, "TidyWorld of a new one", impl.TidyWorld(fresh), fresh)
	wantNewMemory(t, "two new ones", impl.NewWorld(4), impl.NewWorld(4))
}

// sharedWorld has one list wherever words may stand: in the snapshot, in entries, in blocks of the disk, in its Cache.
func sharedWorld(words []int64) impl.World {
	r := impl.Raft{Term: 6, SnapIndex: 3, SnapTerm: 2, Snap: words, Log: []impl.Entry{{Index: 4, Term: 2, Data: words}, {Index: 5, Term: 3, Data: words}}}
	d := storeDisk(8, 20, 3, r)
	for _, at := range []int{10, 11, 26 + 10, 26 + 11, 26 + 35} {
		d.Blocks[at] = words
	}
	d.Blocks[26+3] = words
	return impl.World{Disk: d, Raft: r}
}

// Lists that stand in several places of an argument come to lists of their own.
func TestSharedWordsLeadToWorldsOfTheirOwn(t *testing.T) {
	words := append(make([]int64, 0, 60), run(1, 6)...)
	w := sharedWorld(words)
	if code := impl.WorldFault(w); code != impl.OK {
		t.Fatal(code)
	}
	list := []impl.Entry{{Index: 6, Term: 3, Data: words}, {Index: 7, Term: 3, Data: words}}
	for _, o := range []impl.Op{appendOp(5, 3, list...), compactOp(5, words...), installOp(6, 6, words...), hardOp(7, 1), readOp(4), readOp(1)} {
		wantNewMemory(t, "OpWorld", impl.OpWorld(w, o), w, o)
		for steps := range impl.StepsOf(w, o).Value + 1 {
			for pick := range int64(4) {
				picks := same(pick, 5)
				wantNewMemory(t, "CrashWorld", impl.CrashWorld(w, o, steps, picks), w, o, picks)
			}
		}
	}
	wantNewMemory(t, "TidyWorld", impl.TidyWorld(w), w)
	d := sharedWorld(words).Disk
	d.Cache = []impl.Put{{At: 10, Words: words}, {At: 26 + 35, Words: words}, {At: 26 + 12, Words: words}, {At: 10, Words: words}}
	if r := impl.OpenDisk(d); r.Code != impl.OK {
		t.Fatal(r.Code)
	}
	wantNewMemory(t, "OpenDisk", impl.OpenDisk(d), d)
}

// What was given may be written to behind a call: what it answered hangs on it no more.
func TestWorldsAreApartFromWhatWasGiven(t *testing.T) {
	words := append(make([]int64, 0, 60), 5, 4)
	o := impl.Op{Kind: impl.OpAppend, Index: 7, Term: 5, List: []impl.Entry{{Index: 8, Term: 6, Data: words}}}
	w, cached := knownWorld(6, 24), cachedWorld(9)
	cached.Disk.Cache = append(cached.Disk.Cache, impl.Put{At: 26 + 20, Words: words})
	done, read, tidy := impl.OpWorld(w, o), impl.OpWorld(w, readOp(7)), impl.TidyWorld(w)
	crashed, opened := impl.CrashWorld(w, o, 30, []int64{1, 1}), impl.OpenDisk(cached.Disk)
	plain := knownWorld(6, 24)
	add := appendOp(7, 5, entryOf(8, 6, 5, 4))
	words[1], o.List[0].Term, w.Raft.Snap[0], w.Raft.Log[3].Data[0], w.Raft.Log[0].Index = -77, -77, -77, -77, -77
	for at := range 66 {
		for i := range w.Disk.Blocks[at] {
			w.Disk.Blocks[at][i] = -77
		}
		for i := range cached.Disk.Blocks[at] {
			cached.Disk.Blocks[at][i] = -77
		}
	}
	wantWorldResult(t, "OpWorld", done, plainOpWorld(plain, add))
	wantWorldResult(t, "OpWorld of a read", read, impl.WorldResult{Value: 5, World: plain})
	wantWorldResult(t, "TidyWorld", tidy, plainTidy(plain))
	wantDiskResult(t, "CrashWorld", crashed, plainCrashWorld(plain, add, 30, []int64{1, 1}))
	want := knownWorld(6, 3)
	want.Disk.Blocks[26+20] = []int64{5, 4}
	wantWorldResult(t, "OpenDisk", opened, impl.WorldResult{World: want})
}
