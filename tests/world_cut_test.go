package tests

import (
	"math/rand"
	"slices"
	"testing"

	"loop.example/g00311/impl"
)

// Promise 14: wherever an operation is cut off, and whatever of what was not flushed is there, whole, by halves or not at all: what is opened is the store ahead of it or behind it, and the latter once all steps were done; so also when it is cut off again.

// wantOpened cuts off an operation and opens what is left of it; it tells the world, and whether the operation is there.
func wantOpened(t *testing.T, w impl.World, o impl.Op, steps int64, picks []int64) (impl.World, bool) {
	t.Helper()
	crashed := impl.CrashWorld(w, o, steps, picks)
	wantDiskResult(t, "CrashWorld", crashed, plainCrashWorld(w, o, steps, picks))
	r := impl.OpenDisk(crashed.Disk)
	if crashed.Code != impl.OK || r.Code != impl.OK || r.Reply != 0 || r.Value != 0 {
		t.Fatalf("%v cut off at %d, %v: %d, %v", o, steps, picks, crashed.Code, r)
	}
	if !sameDisks(r.World.Disk, crashed.Disk) || impl.WorldFault(r.World) != impl.OK {
		t.Fatalf("%v cut off at %d, %v: opened as another disk, or with a fault", o, steps, picks)
	}
	behind := impl.DoOp(w.Raft, o).Raft
	if impl.SameRafts(r.World.Raft, behind) {
		return r.World, true
	}
	if all := impl.StepsOf(w, o).Value; steps == all || !impl.SameRafts(r.World.Raft, w.Raft) {
		t.Fatalf("%v cut off at %d of %d, %v: %v, was %v, will be %v", o, steps, all, picks, r.World.Raft, w.Raft, behind)
	}
	return r.World, false
}

// cachedAt is how many puts are not flushed behind so many steps of the operation.
func cachedAt(w impl.World, o impl.Op, steps int64) int {
	return len(plainRun(w.Disk, plainStepsFor(w, o).Steps[:steps]).Cache)
}

// pickLists are: nothing, all, each half alone of all, one put alone, whole and by halves, all but one, and some at random. Of more than eight puts not each one is picked alone, but the first, the last and two others.
func pickLists(rnd *rand.Rand, n int) [][]int64 {
	lists := [][]int64{nil}
	puts := rnd.Perm(n)
	if n > 8 {
		puts = append(puts[:2], 0, n-1)
	}
	for pick := range int64(4) {
		lists = append(lists, same(pick, n))
		for _, i := range puts {
			alone, rest := same(impl.KeepNone, n), same(impl.KeepAll, n)
			alone[i], rest[i] = pick, pick
			lists = append(lists, alone, rest)
		}
	}
	for range min(n, 4) {
		lists = append(lists, randomPicks(rnd, n))
	}
	return lists
}

// wantAheadOrBehind cuts off an operation at each number of steps, with many picks. A header that is flushed over words of another number counts just where all of it is there.
func wantAheadOrBehind(t *testing.T, rnd *rand.Rand, w impl.World, o impl.Op) {
	t.Helper()
	all := impl.StepsOf(w, o).Value
	changes := !impl.SameRafts(impl.DoOp(w.Raft, o).Raft, w.Raft)
	for steps := range all + 1 {
		for _, picks := range pickLists(rnd, cachedAt(w, o, steps)) {
			_, done := wantOpened(t, w, o, steps, picks)
			if want := steps == all || steps == all-1 && slices.Equal(picks, []int64{impl.KeepAll}); changes && done != want {
				t.Fatalf("%v cut off at %d of %d, %v: done %v", o, steps, all, picks, done)
			}
		}
	}
}

func TestEachOperationCutOffAnywhere(t *testing.T) {
	rnd := rand.New(rand.NewSource(151))
	for _, n := range []int{0, 17, 24} {
		w := knownWorld(6, n)
		for _, o := range opsOfEachSort() {
			wantAheadOrBehind(t, rnd, w, o)
		}
	}
}

// Each kind in worlds that came of a new one, up to a log without room.
func TestEachKindCutOffInAWorldThatCameOfANewOne(t *testing.T) {
	rnd := rand.New(rand.NewSource(152))
	w := wantOp(t, impl.NewWorld(3).World, hardOp(1, 1)).World
	for round := range 9 {
		for _, o := range kindOps(w.Raft) {
			wantAheadOrBehind(t, rnd, w, o)
		}
		w = wantOp(t, w, kindOps(w.Raft)[round%4]).World
	}
}

// Few puts, and all picks of them.
func TestOperationsCutOffWithAllPicks(t *testing.T) {
	ops := []impl.Op{hardOp(7, 1), appendOp(7, 5, entryOf(8, 6, 1), entryOf(9, 6)), compactOp(4, 7, 9), installOp(6, 3), readOp(3), readOp(9), hardOp(6, 2)}
	for _, n := range []int{0, 3, 24} {
		w := knownWorld(6, n)
		for _, o := range ops {
			for steps := range impl.StepsOf(w, o).Value + 1 {
				if cached := cachedAt(w, o, steps); cached <= 3 {
					eachPicks(cached, func(picks []int64) { wantOpened(t, w, o, steps, picks) })
				}
			}
		}
	}
}

// The document's example: two entries, half of the header is there, or all steps were done.
func TestTwoEntriesCutOffAheadOfTheHeadersFlush(t *testing.T) {
	w := wantOp(t, impl.NewWorld(4).World, hardOp(2, 1)).World
	o := appendOp(0, 0, entryOf(1, 1, 9), entryOf(2, 2, 8))
	wantInt(t, "two puts, a flush, a header, a flush", impl.StepsOf(w, o), impl.IntResult{Value: 6})
	for _, pick := range []int64{impl.KeepNone, impl.KeepFirst, impl.KeepSecond} {
		none := impl.OpenDisk(impl.CrashWorld(w, o, 5, []int64{pick}).Disk)
		wantRaft(t, "neither is there", impl.RaftResult{Code: none.Code, Raft: none.World.Raft}, impl.Raft{Term: 2, Vote: 1})
	}
	both := impl.OpenDisk(impl.CrashWorld(w, o, 6, nil).Disk)
	wantRaft(t, "both are there", impl.RaftResult{Code: both.Code, Raft: both.World.Raft}, impl.Raft{Term: 2, Vote: 1, Log: o.List})
}

// How much of a batch is there, where its slots hold each half of each put: nothing of it is seen.
func TestOfABatchThereIsAllOrNothing(t *testing.T) {
	w := knownWorld(6, 9)
	o := installOp(20, 6, run(1, 40)...)
	crashed := impl.CrashWorld(w, o, 8, same(impl.KeepAll, 8)).Disk
	wantPuts(t, "eight puts, all there", impl.LogOf(crashed), impl.LogOf(w.Disk).Puts)
	for i, p := range impl.LogOf(impl.OpWorld(w, o).World.Disk).Puts[9:] {
		slot := 2 + plainSlot(20, 9+i)
		if !slices.Equal(crashed.Blocks[slot], p.Words) {
			t.Errorf("put %d is not in its slot", i)
		}
	}
	wantWorldResult(t, "eight puts, all there", impl.OpenDisk(crashed), impl.WorldResult{World: impl.World{Disk: crashed, Raft: w.Raft}})
}

// An install ahead of the append is flushed, and the append is not: the store is as it was, and there is room.
func TestCutOffBetweenTheInstallAndTheAppend(t *testing.T) {
	w := knownWorld(6, 24)
	o := hardOp(7, 1)
	wantInt(t, "StepsOf", impl.StepsOf(w, o), impl.IntResult{Value: 27 + 4})
	for steps := range int64(32) {
		now, done := wantOpened(t, w, o, steps, nil)
		room := int64(0)
		if steps >= 27 {
			room = 24
		}
		if done {
			room = 23
		}
		wantInt(t, "room", impl.RoomIn(now.Disk), impl.IntResult{Value: room})
		if want := steps == 31; done != want {
			t.Errorf("%d steps: done %v", steps, done)
		}
	}
}

// What was cut off is opened, and its next operation, the same or another, is cut off as well.
func TestCutOffAgain(t *testing.T) {
	rnd := rand.New(rand.NewSource(153))
	for _, n := range []int{0, 21, 24} {
		w := knownWorld(6, n)
		for i, first := range opsOfEachSort() {
			all := impl.StepsOf(w, first).Value
			for _, steps := range []int64{all / 2, all - 3, all - 2, all - 1, all} {
				if steps < 0 {
					continue
				}
				for _, picks := range [][]int64{nil, same(1, 30), same(2, 30), same(3, 30), randomPicks(rnd, 30)} {
					now, _ := wantOpened(t, w, first, steps, picks)
					wantCutOffNext(t, rnd, now, first)
					wantCutOffNext(t, rnd, now, kindOps(now.Raft)[i%4])
				}
			}
		}
	}
}

// wantCutOffNext cuts off at the last steps, where the header is written, with each pick of it, and somewhere ahead of them.
func wantCutOffNext(t *testing.T, rnd *rand.Rand, w impl.World, o impl.Op) {
	t.Helper()
	all := impl.StepsOf(w, o).Value
	wantOpened(t, w, o, rnd.Int63n(all+1), randomPicks(rnd, 30))
	wantOpened(t, w, o, all, randomPicks(rnd, 30))
	if all > 0 {
		for pick := range int64(4) {
			wantOpened(t, w, o, all-1, []int64{pick})
		}
	}
	wantOp(t, w, o)
}

// A header of which one half is there from a time before: another half of the same one makes it whole, of another one it does not.
func TestHalvesOfTwoHeaders(t *testing.T) {
	w := wantOp(t, impl.NewWorld(3).World, hardOp(2, 1)).World
	a, b, other := hardOp(3, 1), hardOp(4, 2), appendOp(0, 0, entryOf(1, 2))
	half, done := wantOpened(t, w, a, 3, []int64{impl.KeepFirst})
	if done {
		t.Fatal("half a header")
	}
	for o, want := range map[*impl.Op]bool{&a: true, &b: true, &other: false} {
		all := impl.StepsOf(half, *o).Value
		if now, done := wantOpened(t, half, *o, all-1, []int64{impl.KeepSecond}); done != want {
			t.Errorf("%v: done %v, %v", *o, done, now.Raft)
		}
	}
}

// Operations behind one another, each one cut off somewhere, beside a store that is a plain one; cut off or done, it goes on.
func TestCutOffAgainAndAgain(t *testing.T) {
	rnd := rand.New(rand.NewSource(154))
	lost, won, installs, tidied := 0, 0, 0, 0
	for range 15 {
		w := impl.NewWorld(1 + rnd.Int63n(9)).World
		for range 200 {
			o := busyOp(rnd, w.Raft)
			all := impl.StepsOf(w, o).Value
			steps := rnd.Int63n(all + 1)
			if rnd.Intn(3) == 0 {
				steps = max(all-1, 0)
			}
			room := impl.RoomIn(w.Disk).Value
			now, done := wantOpened(t, w, o, steps, randomPicks(rnd, rnd.Intn(30)))
			if done && all > 0 {
				won++
			} else if all > 0 {
				lost++
			}
			if impl.RoomIn(now.Disk).Value > room {
				installs++
			}
			w = now
			if rnd.Intn(80) == 0 {
				w = wantTidy(t, w)
				tidied++
			}
		}
	}
	if lost < 300 || won < 150 || installs < 20 || tidied < 20 {
		t.Errorf("%d lost, %d won, %d installs, %d tidied", lost, won, installs, tidied)
	}
}

// A disk that is opened while something is not flushed is as if all of it had been there.
func TestOpenedWithoutACrash(t *testing.T) {
	for _, n := range []int{0, 9, 24} {
		w := knownWorld(6, n)
		for _, o := range opsOfEachSort() {
			list := plainStepsFor(w, o).Steps
			for steps := range len(list) + 1 {
				now := cutAt(t, w.Disk, list, steps)
				flushed := impl.CrashWorld(w, o, int64(steps), same(impl.KeepAll, 60)).Disk
				want := impl.DoOp(w.Raft, o).Raft
				if steps < len(list)-1 {
					want = w.Raft
				}
				wantWorldResult(t, "not flushed", impl.OpenDisk(now), impl.WorldResult{World: impl.World{Disk: flushed, Raft: want}})
			}
		}
	}
}

// At the last Seq that there is an operation is cut off as any other.
func TestCutOffAtTheLastSeq(t *testing.T) {
	rnd := rand.New(rand.NewSource(155))
	for _, o := range []impl.Op{hardOp(7, 1), appendOp(7, 5, entryOf(8, 6, 1)), readOp(3)} {
		wantAheadOrBehind(t, rnd, knownWorld(64999, 5), o)
		wantAheadOrBehind(t, rnd, knownWorld(64998, 24), o)
	}
	wantAheadOrBehind(t, rnd, knownWorld(65000, 24), readOp(3))
	wantAheadOrBehind(t, rnd, knownWorld(65000, 24), hardOp(5, 1))
}
