package tests

import (
	"math/rand"
	"runtime"
	"slices"
	"testing"
	"time"

	"loop.example/g00311/impl"
)

// Promise 1: the functions of who is picked change no argument, their answers are new memory and hang on the arguments alone.

type schedArgs struct {
	Sched impl.Sched
	Ops   [][]impl.Op
	Pick  int64
	Picks []int64
}

// bigSched has not begun, and has data and entries in each thread.
func bigSched() impl.Sched {
	ops := []impl.Op{hardOp(7, 1), appendOp(7, 5, raisedLog(8, 4, 6)...), compactOp(5, run(1, 40)...), installOp(9, 6, run(1, 9)...), readOp(7), hardOp(6, 2)}
	return impl.NewSched(knownWorld(6, 20), slices.Repeat([][]impl.Op{ops, nil, ops[1:4]}, 2)).Sched
}

func schedArgsList() []schedArgs {
	rnd := rand.New(rand.NewSource(157))
	begun := impl.RunSched(bigSched(), randomTurns(rnd, bigSched(), 60)).Sched
	ended := impl.DrainSched(bigSched()).Sched
	full, wrong, locked, late := knownSched(), knownSched(), knownSched(), knownSched()
	full.History = slices.Repeat([]impl.Done{{Thread: 3, At: 1}}, 60)
	wrong.World.Raft.Vote, locked.Locks, late.World = 3, ownersOf(0, 40, 7), knownWorld(65000, 20)
	scheds := []impl.Sched{{}, {World: knownWorld(6, 3)}, knownSched(), bigSched(), begun, ended, full, wrong, locked, late}
	var list []schedArgs
	for i, s := range scheds {
		var ops [][]impl.Op
		for _, th := range s.Threads {
			ops = append(ops, th.Ops)
		}
		for pick := int64(-1); pick <= int64(len(s.Threads)); pick++ {
			picks := randomTurns(rnd, s, []int{0, 9, 50}[(int(pick)+1+i)%3])
			if pick == 6 {
				picks = append(picks, 6)
			}
			list = append(list, schedArgs{s, ops, pick, picks})
		}
	}
	return append(list, schedArgs{knownSched(), make([][]impl.Op, 9), 0, same(0, 201)}, schedArgs{knownSched(), [][]impl.Op{make([]impl.Op, 7)}, 1, same(2, 200)})
}

func schedCalls() []namedCall[schedArgs] {
	return []namedCall[schedArgs]{
		{"SchedFault", func(a schedArgs) any { return impl.SchedFault(a.Sched) }},
		{"NewSched", func(a schedArgs) any { return impl.NewSched(a.Sched.World, a.Ops) }},
		{"StepSched", func(a schedArgs) any { return impl.StepSched(a.Sched, a.Pick) }},
		{"RunSched", func(a schedArgs) any { return impl.RunSched(a.Sched, a.Picks) }},
		{"DrainSched", func(a schedArgs) any { return impl.DrainSched(a.Sched) }},
		{"BoundOf", func(a schedArgs) any { return impl.BoundOf(a.Sched) }},
		{"EndedSched", func(a schedArgs) any { return impl.EndedSched(a.Sched) }},
	}
}

func TestSchedCallsKeepToTheirArguments(t *testing.T) {
	wantCallsApart(t, schedCalls(), schedArgsList())
}

// Steps of each kind answer new memory: the disk's blocks, the store, each thread's operations with their data and lists, locks and history.
func TestEachStepIsNewMemory(t *testing.T) {
	s := roomyCopy(bigSched())
	for i, pick := range slices.Repeat([]int64{0, 3, 1, 2, 5}, 36) {
		was := roomyCopy(s)
		r := impl.StepSched(s, pick)
		wantNewMemory(t, "StepSched", r, s)
		wantUnchanged(t, "StepSched", s, was)
		picks := append(make([]int64, 0, 9), pick, 0, pick)
		wantNewMemory(t, "RunSched", impl.RunSched(s, picks), s, picks)
		if i%10 == 0 {
			wantNewMemory(t, "DrainSched", impl.DrainSched(s), s)
		}
		wantUnchanged(t, "RunSched and DrainSched", s, was)
		s = roomyCopy(r.Sched)
	}
	if len(s.History) < 10 {
		t.Errorf("just %d were done", len(s.History))
	}
}

// Lists that stand in several places of an argument come to lists of their own.
func TestSharedListsLeadToSchedsOfTheirOwn(t *testing.T) {
	words := append(make([]int64, 0, 60), run(1, 6)...)
	entries := append(make([]impl.Entry, 0, 9), impl.Entry{Index: 6, Term: 3, Data: words}, impl.Entry{Index: 7, Term: 3, Data: words})
	ops := append(make([]impl.Op, 0, 9), appendOp(5, 3, entries...), compactOp(5, words...), appendOp(5, 3, entries...), installOp(6, 6, words...), compactOp(6, words...))
	lists := append(make([][]impl.Op, 0, 9), ops, ops, ops[:2], ops)
	w := sharedWorld(words)
	r := impl.NewSched(w, lists)
	wantSchedCode(t, "NewSched", r, impl.OK)
	wantNewMemory(t, "NewSched", r, w, lists)
	s := impl.Sched{World: w}
	for _, list := range lists {
		s.Threads = append(s.Threads, impl.Thread{Ops: list})
	}
	for pick := range int64(4) {
		wantNewMemory(t, "StepSched", impl.StepSched(s, pick), s)
		wantNewMemory(t, "RunSched", impl.RunSched(s, same(pick, 30)), s)
	}
	wantNewMemory(t, "RunSched of no picks", impl.RunSched(s, nil), s)
	wantNewMemory(t, "DrainSched", impl.DrainSched(s), s)
	wantSchedResult(t, "shared or not", impl.DrainSched(s), impl.DrainSched(r.Sched))
}

// What was given may be written to behind a call: what it answered hangs on it no more.
func TestSchedsAreApartFromWhatWasGiven(t *testing.T) {
	s, picks := bigSched(), []int64{0, 0, 0, 0, 0}
	stepped, run, drained := impl.StepSched(s, 0), impl.RunSched(s, picks), impl.DrainSched(s)
	lists := [][]impl.Op{{compactOp(5, 1, 2)}, {appendOp(7, 5, entryOf(8, 6, 9))}}
	w := knownWorld(6, 20)
	fresh := impl.NewSched(w, lists)
	picks[4], lists[0][0].Data[0], lists[1][0].List[0].Data[0], lists[1][0].List[0].Term, w.Raft.Snap[0], w.Raft.Log[0].Data[0] = 7, -77, -77, -77, -77, -77
	for _, th := range s.Threads {
		for i := range th.Ops {
			th.Ops[i].Kind = -77
		}
	}
	for _, words := range slices.Concat(w.Disk.Blocks, s.World.Disk.Blocks) {
		for i := range words {
			words[i] = -77
		}
	}
	wantSchedResult(t, "StepSched", stepped, plainStepSched(bigSched(), 0))
	wantSchedResult(t, "RunSched", run, plainRunSched(bigSched(), same(0, 5)))
	wantSchedResult(t, "DrainSched", drained, plainDrain(bigSched()))
	wantSchedResult(t, "NewSched", fresh, plainNewSched(knownWorld(6, 20), [][]impl.Op{{compactOp(5, 1, 2)}, {appendOp(7, 5, entryOf(8, 6, 9))}}))
}

// Whoever tells the picks is gone when the call answers, also where there are none, and where a code is told.
func TestNobodyIsLeftBehindARun(t *testing.T) {
	ahead := runtime.NumGoroutine()
	s := knownSched()
	for range 300 {
		impl.RunSched(s, same(3, 200))
		impl.RunSched(s, nil)
		impl.RunSched(s, append(same(3, 100), 6))
		impl.RunSched(s, same(3, 201))
		impl.RunSched(impl.Sched{}, same(3, 9))
	}
	for tries := 0; runtime.NumGoroutine() > ahead; tries++ {
		if tries == 200 {
			t.Fatalf("%d are left", runtime.NumGoroutine()-ahead)
		}
		time.Sleep(time.Millisecond)
	}
}
