package tests

import (
	"math/rand"
	"slices"
	"strconv"
	"testing"

	"loop.example/g00311/impl"
)

// Promise 15: whoever is picked a schedule has no fault, and picks that are run in two parts are as if in one; where all are picked in turns each comes to its end, and nobody waits in a ring.

// grownWorld came of a new one by at most 22 operations.
func grownWorld(rnd *rand.Rand) impl.World {
	w := impl.NewWorld(1 + rnd.Int63n(9)).World
	for range rnd.Intn(23) {
		w = impl.OpWorld(w, busyOp(rnd, w.Raft)).World
	}
	return w
}

// randomSched has not begun; its operations, at most so many a thread, go with the world more often than not.
func randomSched(rnd *rand.Rand, most int) impl.Sched {
	w := grownWorld(rnd)
	lists := make([][]impl.Op, rnd.Intn(9))
	for i := range lists {
		for range rnd.Intn(most + 1) {
			lists[i] = append(lists[i], busyOp(rnd, w.Raft))
		}
	}
	return impl.NewSched(w, lists).Sched
}

// randomTurns are n picks of the schedule, or none where it has no threads.
func randomTurns(rnd *rand.Rand, s impl.Sched, n int) []int64 {
	var picks []int64
	for range n {
		if len(s.Threads) > 0 {
			picks = append(picks, rnd.Int63n(int64(len(s.Threads))))
		}
	}
	return picks
}

// wantStep takes a schedule without a fault and a place: it holds the step against the plain one, and asks that there is no fault behind it, that Moved is told just where something changed, and that nobody else is touched.
func wantStep(t *testing.T, s impl.Sched, pick int64) impl.SchedResult {
	t.Helper()
	r := impl.StepSched(s, pick)
	wantSchedResult(t, "StepSched", r, plainStepSched(s, pick))
	if code := impl.SchedFault(r.Sched); code != impl.OK {
		t.Fatalf("pick %d: a fault %d", pick, code)
	}
	if r.Moved == sameScheds(r.Sched, s) {
		t.Fatalf("pick %d: Moved %v", pick, r.Moved)
	}
	for i, th := range s.Threads {
		now := r.Sched.Threads[i]
		if !sameOps(now.Ops, th.Ops) || int64(i) != pick && (now.At != th.At || now.Need != th.Need) {
			t.Fatalf("pick %d: thread %d was touched", pick, i)
		}
		if int64(i) != pick && !slices.Equal(impl.HeldBy(r.Sched.Locks, int64(i)+1).List, impl.HeldBy(s.Locks, int64(i)+1).List) {
			t.Fatalf("pick %d: locks of thread %d were touched", pick, i)
		}
	}
	if !slices.Equal(r.Sched.History[:len(s.History)], s.History) || len(r.Sched.History) > len(s.History)+1 {
		t.Fatalf("pick %d: %v became %v", pick, s.History, r.Sched.History)
	}
	return r
}

// wantTold asks that the history, from a store on, tells what each operation came to, and that the world is what comes of it.
func wantTold(t *testing.T, r impl.Raft, s impl.Sched) {
	t.Helper()
	for _, d := range s.History {
		done := impl.DoOp(r, s.Threads[d.Thread].Ops[d.At])
		if done.Reply != d.Reply || done.Value != d.Value {
			t.Fatalf("%v, but it came to %v", d, done)
		}
		r = done.Raft
	}
	wantRaft(t, "what comes of the history", impl.RaftResult{Raft: s.World.Raft}, r)
}

func TestMaxThreads(t *testing.T) {
	if impl.MaxThreads != 8 {
		t.Error(impl.MaxThreads)
	}
}

func TestNewSchedHasNotBegun(t *testing.T) {
	w := knownWorld(6, 3)
	for _, lists := range [][][]impl.Op{nil, {nil}, {{}, {readOp(3)}}, slices.Repeat([][]impl.Op{slices.Repeat([]impl.Op{compactOp(5, 1, 2)}, 6)}, 8)} {
		r := impl.NewSched(w, lists)
		wantSchedResult(t, "NewSched", r, plainNewSched(w, lists))
		wantSchedFault(t, "NewSched", r.Sched, impl.OK)
		if r.Moved || len(r.Sched.Locks) != 0 || len(r.Sched.History) != 0 || len(r.Sched.Threads) != len(lists) || !sameWorlds(r.Sched.World, w) {
			t.Error(r)
		}
		for i, th := range r.Sched.Threads {
			if th.At != 0 || th.Need != 0 || !sameOps(th.Ops, lists[i]) {
				t.Error(th)
			}
		}
	}
}

// handSched: a compaction, which locks 0, 1 and 2; a term and a read of what is not there, which lock 2 each; an append, which locks 2 and 27.
func handSched(t *testing.T) impl.Sched {
	t.Helper()
	w := impl.NewWorld(4).World
	w = wantOp(t, w, hardOp(2, 1)).World
	w = wantOp(t, w, appendOp(0, 0, entryOf(1, 1), entryOf(2, 2))).World
	return impl.NewSched(w, [][]impl.Op{{compactOp(1, 7)}, {hardOp(3, 2), readOp(9)}, {appendOp(2, 2, entryOf(3, 2, 5))}}).Sched
}

func TestStepsByHand(t *testing.T) {
	s := handSched(t)
	zero, one, two := impl.Owner{At: 0, Txn: 1}, impl.Owner{At: 1, Txn: 1}, impl.Owner{At: 2, Txn: 1}
	steps := []struct {
		pick  int64
		moved bool
		locks []impl.Owner
		done  []impl.Done
	}{
		{0, true, []impl.Owner{zero}, nil},
		{1, true, []impl.Owner{zero, {At: 2, Txn: 2}}, nil},
		{0, true, []impl.Owner{zero, one, {At: 2, Txn: 2}}, nil},
		{0, false, []impl.Owner{zero, one, {At: 2, Txn: 2}}, nil},
		{2, false, []impl.Owner{zero, one, {At: 2, Txn: 2}}, nil},
		{1, true, []impl.Owner{zero, one}, []impl.Done{{Thread: 1}}},
		{2, true, []impl.Owner{zero, one, {At: 2, Txn: 3}}, nil},
		{0, false, []impl.Owner{zero, one, {At: 2, Txn: 3}}, nil},
		{1, false, []impl.Owner{zero, one, {At: 2, Txn: 3}}, nil},
		{2, true, []impl.Owner{zero, one, {At: 2, Txn: 3}, {At: 27, Txn: 3}}, nil},
		{2, true, []impl.Owner{zero, one}, []impl.Done{{Thread: 2}}},
		{2, false, []impl.Owner{zero, one}, nil},
		{0, true, []impl.Owner{zero, one, two}, nil},
		{1, false, []impl.Owner{zero, one, two}, nil},
		{0, true, nil, []impl.Done{{Thread: 0}}},
		{0, false, nil, nil},
		{1, true, []impl.Owner{{At: 2, Txn: 2}}, nil},
		{1, true, nil, []impl.Done{{Thread: 1, At: 1, Reply: impl.ErrNone}}},
		{1, false, nil, nil},
	}
	var history []impl.Done
	for i, step := range steps {
		if ended := impl.EndedSched(s); ended != (i == len(steps)-1) {
			t.Fatalf("ahead of step %d: EndedSched %v", i, ended)
		}
		r := wantStep(t, s, step.pick)
		history = append(history, step.done...)
		if r.Moved != step.moved || !slices.Equal(r.Sched.Locks, step.locks) || !slices.Equal(r.Sched.History, history) {
			t.Fatalf("step %d: %v", i, r)
		}
		s = r.Sched
	}
	want := impl.Raft{Term: 3, Vote: 2, SnapIndex: 1, SnapTerm: 1, Snap: []int64{7}, Log: []impl.Entry{entryOf(2, 2), entryOf(3, 2, 5)}}
	wantRaft(t, "at the end", impl.RaftResult{Raft: s.World.Raft}, want)
}

// What is read stands in the history with its Value; what was read is the store of that step.
func TestWhatIsReadIsTold(t *testing.T) {
	s := impl.NewSched(knownWorld(6, 3), [][]impl.Op{{readOp(7), readOp(7), readOp(2)}, {appendOp(6, 3, entryOf(7, 6))}}).Sched
	r := impl.RunSched(s, []int64{0, 0, 1, 1, 1, 0, 0, 0, 0})
	want := []impl.Done{{Value: 5}, {Thread: 1}, {At: 1, Value: 6}, {At: 2, Reply: impl.ErrOld}}
	if !slices.Equal(r.Sched.History, want) || !r.Moved || !impl.EndedSched(r.Sched) {
		t.Error(r)
	}
	wantTold(t, knownStore(), r.Sched)
}

// At the last Seq an operation that changes something has a code: it is not done, and keeps its locks; what changes nothing goes on.
func TestStepsOfWhichTheOperationHasACode(t *testing.T) {
	for n, seq := range map[int]int64{3: 65000, 24: 64999} {
		for _, o := range []impl.Op{hardOp(7, 1), appendOp(7, 5, entryOf(8, 6)), compactOp(5, 1), installOp(9, 6)} {
			w := knownWorld(seq, n)
			if code := impl.OpWorld(w, o).Code; code != impl.ErrState {
				t.Fatalf("%v: code %d", o, code)
			}
			s := impl.NewSched(w, [][]impl.Op{{readOp(3), hardOp(6, 2), readOp(1), o, readOp(4)}, {readOp(5)}}).Sched
			s = impl.RunSched(s, same(0, 6)).Sched
			if s.Threads[0].At != 3 || len(s.History) != 3 {
				t.Fatal(s.Threads, s.History)
			}
			locks := len(opLocks(o).List)
			for range locks {
				s = wantStep(t, s, 0).Sched
			}
			for range 3 {
				r := wantStep(t, s, 0)
				wantSchedResult(t, "a code", r, impl.SchedResult{Sched: s})
			}
			if s.Threads[0].Need != int64(locks) || len(s.Locks) != locks {
				t.Error(s.Threads, s.Locks)
			}
			wantSchedResult(t, "whoever waits for it", impl.RunSched(s, []int64{1, 0, 1, 0}), impl.SchedResult{Sched: s})
			wantSchedResult(t, "drained", impl.DrainSched(s), impl.SchedResult{Sched: s})
			if impl.EndedSched(s) {
				t.Error("at its end")
			}
		}
	}
}

// A history of 60 has no room: locks are still taken, and nothing is done.
func TestStepsWithAFullHistory(t *testing.T) {
	for _, o := range []impl.Op{hardOp(7, 1), readOp(3), readOp(1), compactOp(5, 1)} {
		for n := 58; n <= 60; n++ {
			s := impl.Sched{World: knownWorld(6, 3), Threads: []impl.Thread{{Ops: []impl.Op{readOp(3), o, readOp(4)}, At: 1}, {Ops: []impl.Op{readOp(5)}}}}
			s.History = slices.Repeat([]impl.Done{{Value: 2}}, n)
			for range opLocks(o).List {
				r := wantStep(t, s, 0)
				if !r.Moved {
					t.Fatal("a lock was not taken")
				}
				s = r.Sched
			}
			r := wantStep(t, s, 0)
			if n == 60 {
				wantSchedResult(t, "no room", r, impl.SchedResult{Sched: s})
				wantSchedResult(t, "no room, run", impl.RunSched(s, []int64{0, 1, 0}), impl.SchedResult{Sched: s})
				wantSchedResult(t, "no room, drained", impl.DrainSched(s), impl.SchedResult{Sched: s})
				continue
			}
			if !r.Moved || len(r.Sched.History) != n+1 || r.Sched.Threads[0].At != 2 || len(r.Sched.Locks) != 0 {
				t.Errorf("room for %d: %v", 60-n, r)
			}
			if d := impl.DrainSched(s); len(d.Sched.History) != 60 || impl.EndedSched(d.Sched) || impl.SchedFault(d.Sched) != impl.OK {
				t.Errorf("room for %d, drained: %v", 60-n, d)
			}
		}
	}
}

// Whoever is picked, at random, one of them far more often than the others, or in turns.
func TestWhoeverIsPickedThereIsNoFault(t *testing.T) {
	rnd := rand.New(rand.NewSource(152))
	moved, waited, replies := 0, 0, map[int64]int{}
	for range 250 {
		s := randomSched(rnd, 6)
		first := s.World.Raft
		picks := randomTurns(rnd, s, 120)
		for i := range picks {
			if rnd.Intn(3) == 0 {
				picks[i] = 0
			}
		}
		for _, pick := range picks {
			r := wantStep(t, s, pick)
			if r.Moved {
				moved++
			} else if s.Threads[pick].At < int64(len(s.Threads[pick].Ops)) {
				waited++
			}
			s = r.Sched
		}
		wantTold(t, first, s)
		for _, d := range s.History {
			replies[d.Reply]++
		}
	}
	if moved < 3000 || waited < 1000 || replies[impl.OK] < 500 || replies[impl.ErrOld] < 50 || replies[impl.ErrState] < 20 {
		t.Error(moved, waited, replies)
	}
}

// wantTwoParts asks that picks that are cut at a place come to what they come to in one.
func wantTwoParts(t *testing.T, s impl.Sched, picks []int64, cut int, whole impl.SchedResult) {
	t.Helper()
	first := impl.RunSched(s, picks[:cut])
	second := impl.RunSched(first.Sched, picks[cut:])
	if first.Code != impl.OK || impl.SchedFault(first.Sched) != impl.OK {
		t.Fatalf("cut at %d: %v", cut, first)
	}
	second.Moved = second.Moved || first.Moved
	wantSchedResult(t, "in two parts", second, whole)
}

func TestPicksInTwoParts(t *testing.T) {
	rnd := rand.New(rand.NewSource(153))
	for _, n := range []int{0, 1, 2, 7, 40, 199, 200} {
		for range 8 {
			s := randomSched(rnd, 6)
			picks := randomTurns(rnd, s, n)
			whole := impl.RunSched(s, picks)
			wantSchedResult(t, "whole", whole, plainRunSched(s, picks))
			for cut := 0; cut <= len(picks); cut += 1 + len(picks)/25 {
				wantTwoParts(t, s, picks, cut, whole)
			}
			wantTwoParts(t, s, picks, len(picks), whole)
		}
	}
}

func TestPicksOneByOne(t *testing.T) {
	rnd := rand.New(rand.NewSource(154))
	for range 60 {
		s := randomSched(rnd, 6)
		picks := randomTurns(rnd, s, rnd.Intn(201))
		want := impl.SchedResult{Sched: s}
		for _, pick := range picks {
			one := impl.StepSched(want.Sched, pick)
			want = impl.SchedResult{Moved: want.Moved || one.Moved, Sched: one.Sched}
		}
		wantSchedResult(t, "one by one", impl.RunSched(s, picks), want)
	}
}

// The order of the picks is kept, however the two that tell and hear them run.
func TestPicksAreHeardInTheirOrder(t *testing.T) {
	s := handSched(t)
	picks := []int64{0, 1, 0, 0, 2, 1, 2, 0, 1, 2, 2, 2, 0, 1, 0, 0, 1, 1, 1}
	want := plainRunSched(s, picks)
	for range 500 {
		wantSchedResult(t, "once more", impl.RunSched(s, picks), want)
	}
}

// wantDrained drains a schedule without a fault, and asks that it comes to what rounds of all threads come to, within the bound, and that each thread is at its end.
func wantDrained(t *testing.T, s impl.Sched) impl.Sched {
	t.Helper()
	drained := impl.DrainSched(s)
	wantSchedResult(t, "DrainSched", drained, plainDrain(s))
	if impl.SchedFault(drained.Sched) != impl.OK || !impl.EndedSched(drained.Sched) || len(drained.Sched.Locks) != 0 {
		t.Fatalf("not at its end: %v", drained)
	}
	wantInt(t, "at its end", impl.BoundOf(drained.Sched), impl.IntResult{})
	wantSchedResult(t, "drained twice", impl.DrainSched(drained.Sched), impl.SchedResult{Sched: drained.Sched})
	ops, needed := 0, int64(0)
	for i, th := range drained.Sched.Threads {
		ops += len(th.Ops)
		needed += s.Threads[i].Need
		if th.At != int64(len(th.Ops)) || th.Need != 0 {
			t.Fatalf("thread %d: %v", i, th)
		}
	}
	wantRounds(t, s, drained, impl.BoundOf(s).Value-needed)
	return drained.Sched
}

// wantRounds runs rounds by picks: each of them moves somebody, and all together there are as many moves as there are locks to take and operations to do.
func wantRounds(t *testing.T, s impl.Sched, drained impl.SchedResult, want int64) {
	t.Helper()
	moves := int64(0)
	for !impl.EndedSched(s) {
		ahead := moves
		for pick := range int64(len(s.Threads)) {
			r := impl.StepSched(s, pick)
			if r.Moved {
				moves++
			}
			s = r.Sched
		}
		if moves == ahead {
			t.Fatal("a round moved nobody")
		}
	}
	if moves != want || drained.Moved != (want > 0) || !sameScheds(s, drained.Sched) {
		t.Fatalf("%d moves, want %d; drained: %v", moves, want, drained)
	}
}

func TestDrainBringsEachToItsEnd(t *testing.T) {
	rnd := rand.New(rand.NewSource(155))
	for range 60 {
		s := randomSched(rnd, 6)
		ended := wantDrained(t, s)
		wantTold(t, s.World.Raft, ended)
		begun := impl.RunSched(s, randomTurns(rnd, s, rnd.Intn(100))).Sched
		wantTold(t, s.World.Raft, wantDrained(t, begun))
	}
}

// Where all want the same locks, and where each has some of what another wants.
func TestDrainWhereLocksAreWanted(t *testing.T) {
	w := knownWorld(6, 3)
	sorts := [][]impl.Op{
		{hardOp(7, 1)}, {readOp(3)}, {compactOp(5, 1)}, {installOp(9, 6, 1, 2)}, {appendOp(7, 5, raisedLog(8, 4, 6)...)}, {appendOp(11, 5, hollowLog(12, 4)...)},
	}
	for _, sort := range sorts {
		ended := wantDrained(t, impl.NewSched(w, slices.Repeat([][]impl.Op{slices.Repeat(sort, 6)}, 8)).Sched)
		if len(ended.History) != 48 {
			t.Errorf("%d were done", len(ended.History))
		}
		for _, other := range sorts {
			lists := slices.Repeat([][]impl.Op{slices.Concat(sort, other, sort), slices.Concat(other, other, sort, other)}, 4)
			s := impl.NewSched(w, lists).Sched
			for _, n := range []int{0, 3, 11} {
				wantDrained(t, impl.RunSched(s, slices.Concat(same(int64(n%8), n), same(int64((n+3)%8), 4), []int64{1, 2, 3})).Sched)
			}
		}
	}
}

func TestDrainOfAWorldOf22Operations(t *testing.T) {
	rnd := rand.New(rand.NewSource(156))
	for range 6 {
		w := impl.NewWorld(1 + rnd.Int63n(64000)).World
		for range 22 {
			w = impl.OpWorld(w, busyOp(rnd, w.Raft)).World
		}
		lists := make([][]impl.Op, 8)
		for i := range 48 {
			lists[i%8] = append(lists[i%8], busyOp(rnd, w.Raft))
		}
		if ended := wantDrained(t, impl.NewSched(w, lists).Sched); len(ended.History) != 48 {
			t.Errorf("%d were done", len(ended.History))
		}
	}
}

// keyOf tells apart two states of one schedule: what was done, in order, and who has how many locks.
func keyOf(s impl.Sched) string {
	key := ""
	for _, d := range s.History {
		key += strconv.FormatInt(d.Thread, 10)
	}
	for _, th := range s.Threads {
		key += "," + strconv.FormatInt(th.Need, 10)
	}
	return key
}

// wantNoRing goes to each state that any picks lead to: there is no fault, and somebody can move, but where all are at their end.
func wantNoRing(t *testing.T, first impl.Sched) int {
	t.Helper()
	seen := map[string]bool{keyOf(first): true}
	for list := []impl.Sched{first}; len(list) > 0; {
		s := list[0]
		list = list[1:]
		stuck := true
		for pick := range int64(len(s.Threads)) {
			r := wantStep(t, s, pick)
			stuck = stuck && !r.Moved
			if key := keyOf(r.Sched); !seen[key] {
				seen[key] = true
				list = append(list, r.Sched)
			}
		}
		if stuck != impl.EndedSched(s) {
			t.Fatalf("%v: stuck %v", s.Threads, stuck)
		}
	}
	return len(seen)
}

func TestNobodyIsStuckWhoeverIsPicked(t *testing.T) {
	w, states := knownWorld(6, 3), 0
	add, cut, hard, whole := appendOp(7, 5, raisedLog(8, 2, 6)...), compactOp(5, 1), hardOp(7, 1), installOp(9, 6, 3)
	for _, lists := range [][][]impl.Op{
		{{hard, readOp(7)}, {hard}, {readOp(7), readOp(1)}},
		{{cut, hard}, {whole}, {hard}},
		{{cut}, {add}, {whole}},
		{{add, cut}, {add, whole}},
		{{add}, {appendOp(6, 3, raisedLog(7, 3, 6)...)}, {cut}},
		{{cut}, {cut}, {whole}, {hard}},
	} {
		states += wantNoRing(t, impl.NewSched(w, lists).Sched)
	}
	if states < 800 {
		t.Errorf("just %d states", states)
	}
}

func TestBoundOfByHand(t *testing.T) {
	s := knownSched() // read 1, hard 1; compact 3, hard 1; append of four 5; append of four 5, install 3: and 1 for each of them
	wantInt(t, "the known one", impl.BoundOf(s), impl.IntResult{Value: 2 + 2 + 4 + 2 + 6 + 6 + 4})
	s.Threads[2].Need, s.Locks = 0, s.Locks[:2]
	wantInt(t, "locks are not taken off", impl.BoundOf(s), impl.IntResult{Value: 26})
	wantInt(t, "no threads", impl.BoundOf(impl.Sched{World: knownWorld(6, 3)}), impl.IntResult{})
	ops := []impl.Op{hardOp(7, 1), appendOp(7, 5, raisedLog(8, 2, 6)...), compactOp(5), readOp(3), installOp(9, 6), appendOp(7, 5)}
	for at, want := range []int64{18, 16, 12, 8, 6, 2, 0} {
		s := impl.Sched{World: knownWorld(6, 3), Threads: []impl.Thread{{}, {Ops: ops, At: int64(at)}}}
		wantInt(t, "from At on", impl.BoundOf(s), impl.IntResult{Value: want})
		if ended := impl.EndedSched(s); ended != (at == 6) {
			t.Errorf("At %d: EndedSched %v", at, ended)
		}
	}
	greatest := slices.Repeat([][]impl.Op{slices.Repeat([]impl.Op{appendOp(0, 0, hollowLog(1, 4)...)}, 6)}, 8)
	wantInt(t, "the greatest", impl.BoundOf(impl.NewSched(knownWorld(6, 3), greatest).Sched), impl.IntResult{Value: 8 * 6 * 6})
}

// One thread that is not at its end is enough, wherever it stands; and a fault, whatever it is, where all are.
func TestEndedSchedAsksEach(t *testing.T) {
	all := slices.Repeat([]impl.Thread{{Ops: []impl.Op{readOp(3), readOp(4)}, At: 2}}, 8)
	s := impl.Sched{World: knownWorld(6, 3), Threads: all, History: []impl.Done{{Thread: 7, At: 1}}}
	if !impl.EndedSched(s) {
		t.Error("all are at their end")
	}
	for i := range 8 {
		for at := range int64(2) {
			one := s
			one.Threads, one.History = slices.Clone(all), nil
			one.Threads[i].At = at
			if impl.EndedSched(one) || impl.SchedFault(one) != impl.OK {
				t.Errorf("thread %d is at %d", i, at)
			}
		}
	}
	for _, change := range []func(s *impl.Sched){
		func(s *impl.Sched) { s.World.Raft.Vote = 3 },
		func(s *impl.Sched) { s.Threads = append(s.Threads, impl.Thread{}) },
		func(s *impl.Sched) { s.Locks = ownersOf(2, 1, 1) },
		func(s *impl.Sched) { s.History = []impl.Done{{Thread: 8}} },
		func(s *impl.Sched) { s.Threads = slices.Repeat([]impl.Thread{{At: 1}}, 8) },
	} {
		wrong := s
		wrong.Threads = slices.Clone(all)
		change(&wrong)
		if impl.EndedSched(wrong) || impl.SchedFault(wrong) == impl.OK {
			t.Error("EndedSched in spite of a fault")
		}
	}
}
