package tests

import (
	"math/rand"
	"slices"
	"testing"

	"loop.example/g00311/impl"
)

// Promise 14: in a world that came of a new one the disk tells what the store is. What becomes of it when it is cut off stands in world_cut_test.go.

// wantOp does an operation in a world without a fault, holds it against the plain one, and asks that the disk tells the store; what has a Reply and what is read changes nothing.
func wantOp(t *testing.T, w impl.World, o impl.Op) impl.WorldResult {
	t.Helper()
	r := impl.OpWorld(w, o)
	wantWorldResult(t, "OpWorld", r, plainOpWorld(w, o))
	wantInt(t, "StepsOf", impl.StepsOf(w, o), plainStepsOf(w, o))
	if r.Code != impl.OK {
		return r
	}
	if code := impl.WorldFault(r.World); code != impl.OK {
		t.Fatalf("%v: a fault %d", o, code)
	}
	wantRaft(t, "the disk tells the store", impl.LoadRaft(impl.ViewOf(r.World.Disk).Puts), r.World.Raft)
	wantOpResult(t, "DoOp", impl.DoOp(w.Raft, o), impl.OpResult{Reply: r.Reply, Value: r.Value, Raft: r.World.Raft})
	wantHardKept(t, w.Raft, r.World.Raft)
	wantStepsCounted(t, w, o, r)
	return r
}

// wantStepsCounted takes what OpWorld answers without a code.
func wantStepsCounted(t *testing.T, w impl.World, o impl.Op, r impl.WorldResult) {
	t.Helper()
	steps := impl.StepsOf(w, o).Value
	if r.Reply != impl.OK || o.Kind == impl.OpRead || impl.SameRafts(w.Raft, r.World.Raft) {
		wantWorldResult(t, "nothing changes", r, impl.WorldResult{Reply: r.Reply, Value: r.Value, World: w})
		wantInt(t, "nothing changes", impl.IntResult{Value: steps}, impl.IntResult{})
		return
	}
	wantInt(t, "something changes", impl.StepsOf(w, o), impl.IntResult{Value: int64(len(impl.PlanOp(w.Disk, o).Steps))})
	if steps < 4 || o.Kind != impl.OpRead && r.Value != 0 {
		t.Fatalf("%v: %d steps, Value %d", o, steps, r.Value)
	}
}

func TestWorldByHand(t *testing.T) {
	w := impl.NewWorld(4).World
	cases := []struct {
		name  string
		op    impl.Op
		reply int64
		value int64
		steps int64
		raft  impl.Raft
	}{
		{"a read of nothing", readOp(0), 0, 0, 0, impl.Raft{}},
		{"a read of what is not there", readOp(1), impl.ErrNone, 0, 0, impl.Raft{}},
		{"a term and a vote", hardOp(2, 1), 0, 0, 4, impl.Raft{Term: 2, Vote: 1}},
		{"the same once more", hardOp(2, 1), 0, 0, 0, impl.Raft{Term: 2, Vote: 1}},
		{"another vote", hardOp(2, 3), impl.ErrOld, 0, 0, impl.Raft{Term: 2, Vote: 1}},
		{"two entries", appendOp(0, 0, entryOf(1, 1, 9), entryOf(2, 2)), 0, 0, 6, impl.Raft{Term: 2, Vote: 1, Log: []impl.Entry{entryOf(1, 1, 9), entryOf(2, 2)}}},
		{"a read", readOp(2), 0, 2, 0, impl.Raft{Term: 2, Vote: 1, Log: []impl.Entry{entryOf(1, 1, 9), entryOf(2, 2)}}},
		{"a compaction", compactOp(1, 7, 8), 0, 0, 7, impl.Raft{Term: 2, Vote: 1, SnapIndex: 1, SnapTerm: 1, Snap: []int64{7, 8}, Log: []impl.Entry{entryOf(2, 2)}}},
		{"a read that is over", readOp(0), impl.ErrOld, 0, 0, impl.Raft{Term: 2, Vote: 1, SnapIndex: 1, SnapTerm: 1, Snap: []int64{7, 8}, Log: []impl.Entry{entryOf(2, 2)}}},
		{"an install", installOp(9, 2, run(1, 9)...), 0, 0, 8, impl.Raft{Term: 2, Vote: 1, SnapIndex: 9, SnapTerm: 2, Snap: run(1, 9)}},
		{"an install that is over", installOp(9, 2, 5), impl.ErrOld, 0, 0, impl.Raft{Term: 2, Vote: 1, SnapIndex: 9, SnapTerm: 2, Snap: run(1, 9)}},
		{"an append behind it", appendOp(9, 2, entryOf(10, 2, 3)), 0, 0, 5, impl.Raft{Term: 2, Vote: 1, SnapIndex: 9, SnapTerm: 2, Snap: run(1, 9), Log: []impl.Entry{entryOf(10, 2, 3)}}},
	}
	for _, c := range cases {
		wantInt(t, c.name, impl.StepsOf(w, c.op), impl.IntResult{Value: c.steps})
		r := wantOp(t, w, c.op)
		if r.Code != impl.OK || r.Reply != c.reply || r.Value != c.value || !plainSameRafts(r.World.Raft, c.raft) {
			t.Fatalf("%s: %v", c.name, r)
		}
		w = r.World
	}
	wantInt(t, "room", impl.RoomIn(w.Disk), impl.IntResult{Value: 24 - 1 - 3 - 4 - 5 - 2})
	tidy := impl.TidyWorld(w)
	wantRaft(t, "tidy", impl.RaftResult{Code: tidy.Code, Raft: tidy.World.Raft}, w.Raft)
	wantHeader(t, "tidy", impl.HeaderIn(tidy.World.Disk), impl.Header{Seq: 10, Start: 15})
}

// Reads, and what comes to nothing, leave the disk block by block and the store as they are.
func TestReadsAndRepliesChangeNothing(t *testing.T) {
	replies := map[int64]int{}
	for _, n := range []int{0, 1, 9, 23, 24} {
		for _, r := range []impl.Raft{knownStore(), {Term: 4, Log: hollowLog(1, 14)}, {}} {
			w := impl.World{Disk: storeDisk(7, 17, n, r), Raft: r}
			for _, o := range append(smallOps(), opsOfEachSort()...) {
				done := wantOp(t, w, o)
				if done.Code != impl.OK {
					t.Fatalf("%v: code %d", o, done.Code)
				}
				replies[done.Reply]++
				if done.Reply != impl.OK || o.Kind == impl.OpRead {
					wantDiskResult(t, "no steps", impl.CrashWorld(w, o, 0, []int64{1}), impl.DiskResult{Disk: w.Disk})
					wantDiskCode(t, "no steps", impl.CrashWorld(w, o, 1, nil), impl.ErrRange)
				}
			}
		}
	}
	for _, code := range []int64{impl.OK, impl.ErrForm, impl.ErrRange, impl.ErrNone, impl.ErrOld, impl.ErrState} {
		if replies[code] < 50 {
			t.Errorf("Reply %d came just %d times", code, replies[code])
		}
	}
	full := impl.World{Disk: storeDisk(7, 17, 3, impl.Raft{Term: 4, Log: hollowLog(1, 14)}), Raft: impl.Raft{Term: 4, Log: hollowLog(1, 14)}}
	wantWorldResult(t, "no room", wantOp(t, full, appendOp(14, 3, entryOf(15, 4))), impl.WorldResult{Reply: impl.ErrFull, World: full})
}

// From a new world on each kind behind each: three of them, and as many more of the first as need an install ahead.
func TestWorldsOfEachKind(t *testing.T) {
	installs := 0
	for first := range 5 {
		for second := range 5 {
			for third := range 5 {
				w := impl.NewWorld(int64(1 + first + second)).World
				w = wantOp(t, w, hardOp(1, 1)).World
				for _, kind := range slices.Concat([]int{first, second, third}, slices.Repeat([]int{second, first}, 5)) {
					room := impl.RoomIn(w.Disk).Value
					r := wantOp(t, w, kindOps(w.Raft)[kind])
					if r.Code != impl.OK {
						t.Fatalf("code %d", r.Code)
					}
					w = r.World
					if impl.RoomIn(w.Disk).Value > room {
						installs++
					}
				}
			}
		}
	}
	if installs < 50 {
		t.Errorf("just %d installs", installs)
	}
}

// busyOp changes the store more often than not.
func busyOp(rnd *rand.Rand, r impl.Raft) impl.Op {
	if rnd.Intn(2) == 0 {
		return kindOps(r)[rnd.Intn(5)]
	}
	return randomOp(rnd, r)
}

// Many operations at random, some of them with faults, tidied now and then.
func TestManyOperationsInAWorld(t *testing.T) {
	rnd := rand.New(rand.NewSource(141))
	codes, replies, installs := map[int64]int{}, map[int64]int{}, 0
	for range 12 {
		w := impl.NewWorld(1 + rnd.Int63n(9)).World
		for range 120 {
			o := busyOp(rnd, w.Raft)
			if rnd.Intn(9) == 0 {
				spoilOp(rnd, &o)
			}
			room := impl.RoomIn(w.Disk).Value
			r := wantOp(t, w, o)
			codes[r.Code]++
			if r.Code != impl.OK {
				continue
			}
			replies[r.Reply]++
			w = r.World
			if impl.RoomIn(w.Disk).Value > room {
				installs++
			}
			if rnd.Intn(15) == 0 {
				w = wantTidy(t, w)
			}
		}
	}
	if codes[impl.OK] < 500 || codes[impl.ErrForm] < 10 || replies[impl.OK] < 300 || installs < 30 {
		t.Error(codes, replies, installs)
	}
}

// Up to the last Seq: then a code is told, nothing else, and the world can still be read.
func TestAWorldThatComesToItsEnd(t *testing.T) {
	rnd := rand.New(rand.NewSource(142))
	for first := int64(64980); first <= 65000; first++ {
		w := impl.NewWorld(first).World
		w.Disk.Blocks[(first+1)%2] = same(9, 64)
		ended := false
		for range 60 {
			o := busyOp(rnd, w.Raft)
			r := wantOp(t, w, o)
			if r.Code != impl.OK {
				wantWorldCode(t, "the end", r, impl.ErrState)
				ended = true
				continue
			}
			w = r.World
		}
		last := wantOp(t, w, readOp(lastIndex(w.Raft)))
		if last.Code != impl.OK || last.Reply != impl.OK || !ended {
			t.Fatalf("from %d on: %v, ended: %v", first, last, ended)
		}
	}
}

// wantTidy asks that nothing of the store changes, that there is room for 24, and that a world that is tidy stays as it is.
func wantTidy(t *testing.T, w impl.World) impl.World {
	t.Helper()
	r := impl.TidyWorld(w)
	wantWorldResult(t, "TidyWorld", r, plainTidy(w))
	if r.Code != impl.OK {
		t.Fatalf("TidyWorld: code %d", r.Code)
	}
	wantRaft(t, "tidy", impl.RaftResult{Raft: r.World.Raft}, w.Raft)
	wantInt(t, "tidy", impl.RoomIn(r.World.Disk), impl.IntResult{Value: 24})
	wantPuts(t, "tidy", impl.ViewOf(r.World.Disk), impl.ViewOf(w.Disk).Puts)
	if code := impl.WorldFault(r.World); code != impl.OK {
		t.Fatalf("tidy: a fault %d", code)
	}
	if plainHeaderIn(r.World.Disk).Header.Seq < 65000 {
		wantWorldResult(t, "tidy twice", impl.TidyWorld(r.World), impl.WorldResult{World: r.World})
	}
	return r.World
}

func TestTidyWorldOfEachLog(t *testing.T) {
	for n := range 25 {
		for _, start := range []int64{0, 7, 23} {
			for _, r := range []impl.Raft{{}, knownStore(), sizedStore(11, 40, 14)} {
				d := storeDisk(9, start, n, r)
				homes := plainSeen(d)
				tidy := wantTidy(t, impl.World{Disk: d, Raft: r})
				if !sameBlocks(tidy.Disk.Blocks[26:], homes[:]) || !sameBlocks(tidy.Disk.Blocks[2:26], d.Blocks[2:26]) {
					t.Errorf("start %d, %d in the log: other blocks", start, n)
				}
				wantHeader(t, "tidy", impl.HeaderIn(tidy.Disk), impl.Header{Seq: 9 + min(int64(n), 1), Start: (start + int64(n)) % 24})
			}
		}
	}
	wantTidy(t, impl.NewWorld(1).World)
	wantTidy(t, knownWorld(64999, 24))
}

// What is done behind a tidy comes to what it comes to without one.
func TestTidyOrNotTheStoreIsTheSame(t *testing.T) {
	rnd := rand.New(rand.NewSource(143))
	for range 20 {
		plain := impl.NewWorld(5).World
		tidied := plain
		for range 25 {
			o := busyOp(rnd, plain.Raft)
			if rnd.Intn(3) == 0 {
				tidied = wantTidy(t, tidied)
			}
			a, b := wantOp(t, plain, o), wantOp(t, tidied, o)
			if a.Code != b.Code || a.Reply != b.Reply || a.Value != b.Value || !plainSameRafts(a.World.Raft, b.World.Raft) {
				t.Fatalf("%v: %v, tidied %v", o, a, b)
			}
			plain, tidied = a.World, b.World
		}
	}
}

// Logs of each length, so that there is room, just room, and none.
func TestStepsOfEachRoom(t *testing.T) {
	r := sizedStore(11, 9, 5)
	puts := map[int]impl.Op{1: hardOp(10, 1), 5: appendOp(16, 4, raisedLog(17, 4, 9)...), 8: compactOp(13, run(3, 40)...)}
	for n := range 25 {
		w := impl.World{Disk: storeDisk(9, 7, n, r), Raft: r}
		for k, o := range puts {
			steps := k + 3
			if n+k > 24 {
				steps += n + 3
			}
			wantInt(t, "StepsOf", impl.StepsOf(w, o), impl.IntResult{Value: int64(steps)})
			wantOp(t, w, o)
		}
	}
}

// A world is opened as it is, and an operation that was done is there.
func TestWorldsAreOpenedAsTheyAre(t *testing.T) {
	for _, n := range []int{0, 3, 17, 24} {
		for _, r := range edgeStores() {
			w := impl.World{Disk: storeDisk(8, 20, n, r), Raft: r}
			wantWorldResult(t, "opened", impl.OpenDisk(w.Disk), impl.WorldResult{World: w})
			wantWorldFault(t, "opened", w, impl.OK)
		}
		w := knownWorld(6, n)
		for _, o := range opsOfEachSort() {
			done := wantOp(t, w, o)
			wantWorldResult(t, "done", impl.OpenDisk(done.World.Disk), impl.WorldResult{World: done.World})
		}
	}
	for _, seq := range []int64{1, 2, 64999, 65000} {
		w := impl.NewWorld(seq).World
		wantWorldResult(t, "new", impl.OpenDisk(w.Disk), impl.WorldResult{World: w})
	}
}
