package tests

import (
	"math"
	"math/rand"
	"slices"
	"testing"

	"loop.example/g00311/impl"
)

// Promise 13: whatever is asked a store has no fault, and what comes to nothing changes nothing; operations that are done in two parts come to what they come to in one; behind all steps of an operation the disk tells the store that is meant.

func TestKindsOfOperations(t *testing.T) {
	if impl.OpHard != 1 || impl.OpAppend != 2 || impl.OpCompact != 3 || impl.OpInstall != 4 || impl.OpRead != 5 {
		t.Error("a kind has another number")
	}
}

func TestDoOpByHand(t *testing.T) {
	r := knownStore()
	four, five, six, seven := r.Log[0], r.Log[1], r.Log[2], r.Log[3]
	cases := []struct {
		name string
		op   impl.Op
		want impl.Raft
	}{
		{"a term above", hardOp(7, 3), knownWith(func(r *impl.Raft) { r.Term, r.Vote = 7, 3 })},
		{"a term above, no vote", hardOp(999, 0), knownWith(func(r *impl.Raft) { r.Term, r.Vote = 999, 0 })},
		{"the same term and vote", hardOp(6, 2), r},
		{"no entries", appendOp(7, 5), r},
		{"one entry", appendOp(7, 5, entryOf(8, 6, 1)), knownWith(func(r *impl.Raft) { r.Log = append(r.Log, entryOf(8, 6, 1)) })},
		{"four entries", appendOp(7, 5, raisedLog(8, 4, 6)...), knownWith(func(r *impl.Raft) { r.Log = append(r.Log, raisedLog(8, 4, 6)...) })},
		{"entries that are there", appendOp(4, 2, entryOf(5, 3, 9), entryOf(6, 3, 9)), r},
		{"an entry that takes two away", appendOp(5, 3, entryOf(6, 4, 9)), knownWith(func(r *impl.Raft) { r.Log = []impl.Entry{four, five, entryOf(6, 4, 9)} })},
		{"a compaction", compactOp(5, 1, 2, 3), impl.Raft{Term: 6, Vote: 2, SnapIndex: 5, SnapTerm: 3, Snap: []int64{1, 2, 3}, Log: []impl.Entry{six, seven}}},
		{"a compaction without words", compactOp(7), impl.Raft{Term: 6, Vote: 2, SnapIndex: 7, SnapTerm: 5}},
		{"an install of an entry", installOp(6, 3, 9), impl.Raft{Term: 6, Vote: 2, SnapIndex: 6, SnapTerm: 3, Snap: []int64{9}, Log: []impl.Entry{seven}}},
		{"an install of another term", installOp(6, 6, 9), impl.Raft{Term: 6, Vote: 2, SnapIndex: 6, SnapTerm: 6, Snap: []int64{9}}},
		{"an install above the log", installOp(9999, 5, run(0, 40)...), impl.Raft{Term: 6, Vote: 2, SnapIndex: 9999, SnapTerm: 5, Snap: run(0, 40)}},
	}
	for _, c := range cases {
		wantOpResult(t, c.name, impl.DoOp(r, c.op), impl.OpResult{Raft: c.want})
		wantOpResult(t, c.name+", run", impl.RunOps(r, []impl.Op{c.op}), impl.OpResult{Raft: c.want})
	}
	for index, term := range map[int64]int64{3: 2, 4: 2, 5: 3, 6: 3, 7: 5} {
		wantOpResult(t, "read", impl.DoOp(r, readOp(index)), impl.OpResult{Value: term, Raft: r})
		wantOpResult(t, "read, run", impl.RunOps(r, []impl.Op{readOp(index)}), impl.OpResult{Raft: r})
	}
	wantOpResult(t, "read of no store", impl.DoOp(impl.Raft{}, readOp(0)), impl.OpResult{})
	wantOpResult(t, "read of an index that is over", impl.DoOp(r, readOp(2)), impl.OpResult{Reply: impl.ErrOld, Raft: r})
	wantOpResult(t, "read of an index that is not there", impl.DoOp(r, readOp(8)), impl.OpResult{Reply: impl.ErrNone, Raft: r})
}

// wantDone holds DoOp against the plain one, and asks that the store has no fault, that a term does not fall, and that what comes to nothing changes nothing.
func wantDone(t *testing.T, r impl.Raft, o impl.Op) impl.OpResult {
	t.Helper()
	done := impl.DoOp(r, o)
	wantOpResult(t, "DoOp", done, plainDo(r, o))
	if done.Code != impl.OK {
		t.Fatalf("%v: code %d", o, done.Code)
	}
	wantHardKept(t, r, done.Raft)
	if (done.Reply != impl.OK || o.Kind == impl.OpRead) && !impl.SameRafts(r, done.Raft) {
		t.Fatalf("%v: Reply %d, and %v became %v", o, done.Reply, r, done.Raft)
	}
	if o.Kind != impl.OpRead && done.Value != 0 {
		t.Fatalf("%v: Value %d", o, done.Value)
	}
	return done
}

// smallOps are all of each kind with indexes and terms up to those of the small stores and a little beyond.
func smallOps() []impl.Op {
	var list []impl.Op
	for index := int64(-1); index <= 6; index++ {
		list = append(list, readOp(index), compactOp(index, run(3, int(index)+1)...))
		for term := int64(-1); term <= 4; term++ {
			list = append(list, hardOp(term, index), installOp(index, term, run(5, int(term)+1)...))
			for _, terms := range risingTerms(1, 4, 2) {
				o := appendOp(index, term, logOfTerms(index+1, terms, 2)...)
				if impl.OpFault(o) == impl.OK {
					list = append(list, o)
				}
			}
		}
	}
	return list
}

func TestEachSmallStoreAndOperation(t *testing.T) {
	replies := map[int64]int{}
	for _, r := range smallStores() {
		for _, o := range smallOps() {
			replies[wantDone(t, r, o).Reply]++
		}
	}
	for _, code := range []int64{impl.OK, impl.ErrForm, impl.ErrRange, impl.ErrNone, impl.ErrOld, impl.ErrState} {
		if replies[code] < 1000 {
			t.Errorf("Reply %d came just %d times", code, replies[code])
		}
	}
}

func TestManyStoresAndOperations(t *testing.T) {
	rnd := rand.New(rand.NewSource(122))
	replies := map[int64]int{}
	for range 400 {
		r := randomStore(rnd)
		for range 80 {
			done := wantDone(t, r, randomOp(rnd, r))
			replies[done.Reply]++
			r = done.Raft
		}
	}
	for _, code := range []int64{impl.OK, impl.ErrRange, impl.ErrNone, impl.ErrOld, impl.ErrFull, impl.ErrState} {
		if replies[code] < 50 {
			t.Errorf("Reply %d came just %d times", code, replies[code])
		}
	}
}

// Whatever is asked: operations with faults too, and numbers as great and as small as can be.
func TestWhateverIsAskedTheStoreHasNoFault(t *testing.T) {
	rnd := rand.New(rand.NewSource(123))
	r := impl.Raft{}
	for range 20000 {
		o := randomOp(rnd, r)
		for range rnd.Intn(3) {
			spoilOp(rnd, &o)
		}
		done := impl.DoOp(r, o)
		wantOpResult(t, "DoOp", done, plainDo(r, o))
		if done.Code != impl.OK {
			continue
		}
		wantHardKept(t, r, done.Raft)
		r = done.Raft
		if r.Term > 990 || r.SnapIndex > 9900 {
			r = impl.Raft{}
		}
	}
}

// randomOps gives n operations that go with one another, from the store on.
func randomOps(rnd *rand.Rand, r impl.Raft, n int) []impl.Op {
	var list []impl.Op
	for range n {
		o := randomOp(rnd, r)
		list = append(list, o)
		r = plainDo(r, o).Raft
	}
	return list
}

// In two parts, cut at each place: the same store, and the two counts together.
func TestOperationsInTwoParts(t *testing.T) {
	rnd := rand.New(rand.NewSource(124))
	for _, n := range []int{0, 1, 2, 3, 20, 59, 60} {
		for range 6 {
			r := randomStore(rnd)
			list := randomOps(rnd, r, n)
			whole := impl.RunOps(r, list)
			wantOpResult(t, "whole", whole, plainRunOps(r, list))
			for cut := range n + 1 {
				first := impl.RunOps(r, list[:cut])
				second := impl.RunOps(first.Raft, list[cut:])
				second.Value += first.Value
				wantOpResult(t, "in two parts", second, whole)
			}
		}
	}
}

func TestOperationsOneByOne(t *testing.T) {
	rnd := rand.New(rand.NewSource(125))
	for range 100 {
		r := randomStore(rnd)
		list := randomOps(rnd, r, rnd.Intn(61))
		want := impl.OpResult{Raft: r}
		for _, o := range list {
			one := impl.DoOp(want.Raft, o)
			want.Raft = one.Raft
			want.Value += min(one.Reply, 1)
		}
		wantOpResult(t, "one by one", impl.RunOps(r, list), want)
	}
}

func TestRunOpsByHand(t *testing.T) {
	list := []impl.Op{
		hardOp(2, 1),
		hardOp(2, 3), // another vote: nothing
		appendOp(0, 0, entryOf(1, 1), entryOf(2, 2, 5)),
		readOp(3),    // not there: nothing
		readOp(2),    // its Value is not counted
		compactOp(9), // not there: nothing
		compactOp(1, 7),
		readOp(0),          // over: nothing
		installOp(5, 3),    // a term above: nothing
		installOp(1, 2, 8), // over: nothing
		hardOp(3, 0),
	}
	middle := impl.Raft{Term: 3, SnapIndex: 1, SnapTerm: 1, Snap: []int64{7}, Log: []impl.Entry{entryOf(2, 2, 5)}}
	wantOpResult(t, "all of these", impl.RunOps(impl.Raft{}, list), impl.OpResult{Value: 6, Raft: middle})
	// In term 3 the install comes to something, and all else but the read of 2 and the last one to nothing.
	wantOpResult(t, "once more", impl.RunOps(middle, list), impl.OpResult{Value: 8, Raft: impl.Raft{Term: 3, SnapIndex: 5, SnapTerm: 3}})
}

func TestLocksForByHand(t *testing.T) {
	cases := []struct {
		name string
		op   impl.Op
		want []int64
	}{
		{"hard", hardOp(2, 1), []int64{2}},
		{"read", readOp(7), []int64{2}},
		{"no entries", appendOp(7, 3), []int64{2}},
		{"one entry", appendOp(0, 0, hollowLog(1, 1)...), []int64{2, 25}},
		{"four entries", appendOp(0, 0, hollowLog(1, 4)...), []int64{2, 25, 26, 27, 28}},
		{"the first slot", appendOp(13, 3, hollowLog(14, 1)...), []int64{2, 24}},
		{"the last slot", appendOp(12, 3, hollowLog(13, 1)...), []int64{2, 37}},
		{"slots that go round", appendOp(11, 3, hollowLog(12, 4)...), []int64{2, 24, 25, 36, 37}},
		{"slots that go round at their last", appendOp(10, 3, hollowLog(11, 4)...), []int64{2, 24, 35, 36, 37}},
		{"the greatest index", appendOp(9998, 3, hollowLog(9999, 1)...), []int64{2, 27}},
		{"compact", compactOp(7, 1, 2), []int64{0, 1, 2}},
		{"compact without words", compactOp(7), []int64{0, 1, 2}},
		{"install", installOp(7, 3, run(0, 40)...), []int64{0, 1, 2}},
		{"numbers that no store has", installOp(math.MinInt64, math.MaxInt64), []int64{0, 1, 2}},
	}
	for _, c := range cases {
		wantWords(t, c.name, impl.LocksFor(c.op), c.want)
	}
}

func TestLocksOfEachIndex(t *testing.T) {
	for first := int64(1); first <= 9999; first++ {
		for n := 1; n <= 4 && first+int64(n)-1 <= 9999; n++ {
			if first > 40 && first < 9970 && n < 4 {
				continue
			}
			o := appendOp(first-1, 3, hollowLog(first, n)...)
			locks := impl.LocksFor(o)
			wantIntsResult(t, "slots", locks, opLocks(o))
			if len(locks.List) != n+1 {
				t.Fatalf("from %d on %d: %v", first, n, locks)
			}
		}
	}
}

// wantPlanned holds PlanOp against the plain one, runs its steps, and asks that the disk tells the store that DoOp answers.
func wantPlanned(t *testing.T, d impl.Disk, o impl.Op) (impl.Disk, int64) {
	t.Helper()
	plan := impl.PlanOp(d, o)
	wantStepsResult(t, "PlanOp", plan, plainPlan(d, o))
	if plan.Code != impl.OK {
		return d, plan.Code
	}
	was := impl.LoadRaft(impl.ViewOf(d).Puts).Raft
	meant := impl.DoOp(was, o)
	if meant.Code != impl.OK || meant.Reply != impl.OK {
		t.Fatalf("%v: planned, and yet %v", o, meant)
	}
	behind := mustDisk(t, impl.RunSteps(d, plan.Steps))
	wantRaft(t, "behind all steps", impl.LoadRaft(impl.ViewOf(behind).Puts), meant.Raft)
	if len(plan.Steps) == 0 {
		wantInt(t, "no steps", impl.CommitAt(plan.Steps), impl.IntResult{Code: impl.ErrNone})
		wantSame(t, "no steps", was, meant.Raft, true)
		return behind, impl.OK
	}
	wantSame(t, "some steps", was, meant.Raft, false)
	wantInt(t, "some steps", impl.CommitAt(plan.Steps), impl.IntResult{Value: int64(len(plan.Steps)) - 1})
	wantSteps(t, "nothing is left to be done", impl.PlanOp(behind, changedInto(meant.Raft)), nil)
	return behind, impl.OK
}

// changedInto asks for what is there already.
func changedInto(r impl.Raft) impl.Op {
	return hardOp(r.Term, r.Vote)
}

func TestPlanOpOfAFormattedDisk(t *testing.T) {
	for _, seq := range []int64{1, 4, 64999} {
		d := formatted(seq)
		next := plainPack(impl.Header{Seq: seq + 1, Addrs: []int64{2}})
		wantSteps(t, "a term and a vote", impl.PlanOp(d, hardOp(2, 1)), []impl.Step{
			{At: 2, Words: []int64{2, 1, 0, 0, 0}}, {Flush: true}, {At: (seq + 1) % 2, Words: next}, {Flush: true},
		})
		wantSteps(t, "a vote in term 0", impl.PlanOp(d, hardOp(0, 9)), []impl.Step{
			{At: 2, Words: []int64{0, 9, 0, 0, 0}}, {Flush: true}, {At: (seq + 1) % 2, Words: next}, {Flush: true},
		})
		wantSteps(t, "nothing changes", impl.PlanOp(d, hardOp(0, 0)), nil)
		wantSteps(t, "no entries", impl.PlanOp(d, appendOp(0, 0)), nil)
		wantSteps(t, "a read", impl.PlanOp(d, readOp(0)), nil)
		for _, o := range []impl.Op{readOp(1), readOp(-1), hardOp(-1, 0), hardOp(0, 10), appendOp(0, 0, entryOf(1, 1)), appendOp(0, 1), compactOp(0), compactOp(1, 5), installOp(1, 1), installOp(1, 0)} {
			wantStepsCode(t, "a Reply", impl.PlanOp(d, o), impl.ErrState)
		}
		wantPlanned(t, d, hardOp(2, 1))
		wantPlanned(t, d, hardOp(0, 0))
	}
}

// Each operation of one store, with the puts that it needs, in the order in which they come into the log.
func TestPlanOpPutsByHand(t *testing.T) {
	four := []int64{1, 2, 3, 4}
	cases := []struct {
		name string
		op   impl.Op
		puts []impl.Put
	}{
		{"hard", hardOp(7, 0), []impl.Put{{At: 2, Words: []int64{7, 0, 3, 2, 4}}}},
		{"one entry", appendOp(7, 5, entryOf(8, 6, 9)), []impl.Put{{At: 2, Words: []int64{6, 2, 3, 2, 5}}, {At: 32, Words: []int64{8, 6, 1, 9}}}},
		{"an entry in place of another", appendOp(6, 3, entryOf(7, 6)), []impl.Put{{At: 31, Words: []int64{7, 6, 0}}}},
		{"an entry that takes one away", appendOp(5, 3, entryOf(6, 6, 5)), []impl.Put{{At: 2, Words: []int64{6, 2, 3, 2, 3}}, {At: 30, Words: []int64{6, 6, 1, 5}}}},
		{"entries of which the first is there", appendOp(6, 3, entryOf(7, 5, 1), entryOf(8, 5)), []impl.Put{{At: 2, Words: []int64{6, 2, 3, 2, 5}}, {At: 32, Words: []int64{8, 5, 0}}}},
		{"a compaction to the same words", compactOp(4, 7, 8), []impl.Put{{At: 2, Words: []int64{6, 2, 4, 2, 3}}}},
		{"a compaction to other words", compactOp(4, 7, 9), []impl.Put{{At: 2, Words: []int64{6, 2, 4, 2, 3}}, {At: 3, Words: []int64{7, 9}}}},
		{"a compaction to more words", compactOp(7, four...), []impl.Put{{At: 1, Words: []int64{1, 2, 4, 3}}, {At: 2, Words: []int64{6, 2, 7, 5, 0}}, {At: 3, Words: four}}},
		{"a compaction to no words", compactOp(5), []impl.Put{{At: 0, Words: []int64{0, 0}}, {At: 1, Words: []int64{1, 2, 0}}, {At: 2, Words: []int64{6, 2, 5, 3, 2}}}},
		{"an install of 9 words", installOp(20, 6, run(1, 9)...), []impl.Put{
			{At: 0, Words: []int64{3, 0}}, {At: 1, Words: []int64{1, 2, 9, 3, 4}}, {At: 2, Words: []int64{6, 2, 20, 6, 0}}, {At: 3, Words: run(1, 8)}, {At: 4, Words: []int64{9}}}},
	}
	for _, c := range cases {
		for _, n := range []int{0, 3, 14, 24} {
			d := storeDisk(8, 20, n, knownStore())
			want := plainPlanPuts(d, plainHeaderIn(d).Header, c.puts)
			wantSteps(t, c.name, impl.PlanOp(d, c.op), want.Steps)
			wantPlanned(t, d, c.op)
		}
	}
}

// Logs of each length: room, just room, and none, so that an install comes first; slots that go round.
func TestPlanOpOfEachRoom(t *testing.T) {
	r := sizedStore(11, 9, 5)
	ops := []impl.Op{hardOp(10, 1), appendOp(16, 4, raisedLog(17, 4, 9)...), compactOp(13, run(3, 40)...), installOp(30, 8, run(3, 25)...), compactOp(12), readOp(12), hardOp(9, 4)}
	installs := 0
	for n := range 25 {
		for _, start := range []int64{0, 7, 23} {
			d := storeDisk(9, start, n, r)
			for _, o := range ops {
				_, code := wantPlanned(t, d, o)
				if code != impl.OK {
					t.Fatalf("%v: code %d", o, code)
				}
				steps := impl.PlanOp(d, o).Steps
				flushes := slices.DeleteFunc(slices.Clone(steps), func(x impl.Step) bool { return !x.Flush })
				if len(flushes) == 4 {
					installs++
					wantSteps(t, "the install", impl.PlanInstall(d), steps[:n+3])
				} else if len(steps) > 0 && len(flushes) != 2 {
					t.Fatalf("%v: %v", o, steps)
				}
			}
		}
	}
	if installs != 3*(1+5+8+7+3) {
		t.Errorf("%d installs", installs)
	}
}

// kindOps are operations of each kind that change the known store, and its followers, wherever they come.
func kindOps(r impl.Raft) []impl.Op {
	last := lastIndex(r)
	term := knownTerms(r)[last]
	return []impl.Op{
		hardOp(r.Term+1, 3),
		appendOp(last, term, entryOf(last+1, max(r.Term, 1), 4, 5), entryOf(last+2, max(r.Term, 1))),
		compactOp(last, run(last, 11)...),
		installOp(last+5, r.Term, run(last, 30)...),
		readOp(last),
	}
}

func TestFromEachKindToEach(t *testing.T) {
	for _, n := range []int{0, 9, 17, 21, 22, 23, 24} {
		for first := range 5 {
			for second := range 5 {
				for third := range 5 {
					d := storeDisk(7, 17, n, knownStore())
					for _, kind := range []int{first, second, third} {
						o := kindOps(impl.LoadRaft(impl.ViewOf(d).Puts).Raft)[kind]
						code := int64(impl.OK)
						if d, code = wantPlanned(t, d, o); code != impl.OK && kind != 2 {
							t.Fatalf("%v: code %d", o, code)
						}
					}
				}
			}
		}
	}
}

// From a formatted disk on, many operations behind one another: the disk tells the store all along.
func TestManyOperationsOnADisk(t *testing.T) {
	rnd := rand.New(rand.NewSource(126))
	codes, installs := map[int64]int{}, 0
	for range 12 {
		d, r := formatted(1+rnd.Int63n(9)), impl.Raft{}
		for range 120 {
			o := randomOp(rnd, r)
			if rnd.Intn(9) == 0 {
				spoilOp(rnd, &o)
			}
			room := impl.RoomIn(d).Value
			next, code := wantPlanned(t, d, o)
			if want := impl.DoOp(r, o); want.Code == impl.OK {
				r = want.Raft
			}
			d = next
			wantRaft(t, "all along", impl.LoadRaft(impl.ViewOf(d).Puts), r)
			codes[code]++
			if impl.RoomIn(d).Value > room {
				installs++
			}
		}
	}
	if codes[impl.OK] < 500 || codes[impl.ErrState] < 100 || codes[impl.ErrForm] < 10 || installs < 30 {
		t.Error(codes, installs)
	}
}

// What was put and not flushed is seen as well, and is flushed by the steps.
func TestPlanOpOverACache(t *testing.T) {
	was, now := knownStore(), sizedStore(11, 20, 6)
	for n := range 25 {
		d := storeDisk(7, 4, n, was)
		over := storeDisk(8, 9, n/2, now)
		for _, at := range rand.New(rand.NewSource(127)).Perm(66) {
			d.Cache = append(d.Cache, impl.Put{At: int64(at), Words: over.Blocks[at]})
		}
		wantRaft(t, "over a cache", impl.LoadRaft(impl.ViewOf(d).Puts), now)
		for _, o := range kindOps(now) {
			if _, code := wantPlanned(t, d, o); code != impl.OK {
				t.Fatalf("%v: code %d", o, code)
			}
		}
	}
}

// What an earlier store left in blocks that are not used changes nothing of what is planned, but where it is just what is to be put.
func TestPlanOpOverWhatIsLeft(t *testing.T) {
	for _, r := range edgeStores() {
		if r.Term == 999 || lastIndex(r) > 9990 {
			continue
		}
		d := storeDisk(7, 4, 0, r)
		for _, at := range passedOver(r) {
			d.Blocks[26+at] = run(at, 1+int(at)%8)
		}
		for _, o := range kindOps(r) {
			wantPlanned(t, d, o)
		}
		next := lastIndex(r) + 1
		d.Blocks[26+24+next%14] = []int64{next, max(r.Term, 1), 2, 4, 5}
		if len(r.Log) < 13 {
			wantPlanned(t, d, kindOps(r)[1])
		}
	}
}

// What an operation writes is locked by it, but for the blocks of the file, over which the map stands.
func TestWhatIsWrittenIsLocked(t *testing.T) {
	written := 0
	for _, r := range slices.Concat(smallStores()[:9], edgeStores()) {
		d := storeDisk(7, 4, 0, r)
		for _, o := range append(kindOps(r), smallOps()...) {
			locks := impl.LocksFor(o).List
			behind := mustDisk(t, impl.RunSteps(d, impl.PlanOp(d, o).Steps))
			for _, p := range impl.LogOf(behind).Puts {
				written++
				if file := p.At >= 3 && p.At <= 22; file && !slices.Contains(locks, 0) || !file && !slices.Contains(locks, p.At) {
					t.Fatalf("%v writes %v, and locks %v", o, p, locks)
				}
			}
		}
	}
	if written < 1000 {
		t.Errorf("just %d blocks were written", written)
	}
}
