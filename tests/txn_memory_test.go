package tests

import (
	"math"
	"slices"
	"testing"

	"loop.example/g00311/impl"
)

// Promise 1: the functions of transactions change no argument, their answers are new memory and hang on the arguments alone.

type txnArgs struct {
	Raft  impl.Raft
	Disk  impl.Disk
	Op    impl.Op
	Ops   []impl.Op
	Steps []impl.Step
}

func txnArgsList() []txnArgs {
	stores := []impl.Raft{{}, knownStore(), sizedStore(11, 40, 5), {Term: 4, Log: raisedLog(1, 14, 3)}, {Term: 3, Snap: []int64{5}}, extremeStore(math.MaxInt64)}
	cached := storeDisk(9, 22, 24, knownStore())
	cached.Cache = []impl.Put{{At: 60, Words: run(1, 9)}, {At: 2, Words: plainRead(cached, 2)}}
	text := storeDisk(9, 22, 4, knownStore())
	text.Blocks[26+23] = run(1, 3)
	disks := []impl.Disk{
		{}, formatted(5), storeDisk(6, 20, 9, knownStore()), storeDisk(6, 20, 24, knownStore()), storeDisk(7, 3, 22, sizedStore(11, 40, 5)),
		cached, text, storeDisk(65000, 1, 3, knownStore()),
	}
	ops := []impl.Op{
		{}, hardOp(9, 4), hardOp(10, 1), hardOp(2, 1), readOp(3), readOp(77),
		appendOp(7, 5, entryOf(8, 6, 1, 2), entryOf(9, 6, 3)), appendOp(5, 3, entryOf(6, 3, 9)), appendOp(5, 3, entryOf(6, 5, 9, 8)),
		appendOp(16, 4, raisedLog(17, 4, 9)...), appendOp(1, 1, hollowLog(2, 5)...), appendOp(1, 1, entryOf(2, 1, -1)),
		compactOp(5, run(1, 40)...), compactOp(13, run(1, 9)...), compactOp(99, 1), compactOp(5, run(1, 41)...),
		installOp(30, 6, run(1, 30)...), installOp(6, 3, 4), {Kind: impl.OpInstall, Vote: 1, Data: run(1, 3), List: raisedLog(1, 2, 3)},
	}
	var list []txnArgs
	for i, o := range ops {
		for k, d := range disks {
			n := i + k
			many := []impl.Op{o, ops[(n+1)%len(ops)], ops[(n+5)%len(ops)]}
			steps := [][]impl.Step{nil, commitOf(1), append(commitOf(0), impl.Step{At: 66, Words: run(1, 4)}), impl.PlanOp(d, o).Steps, slices.Repeat(commitOf(1), 41)}
			list = append(list, txnArgs{stores[n%len(stores)], d, o, many, steps[n%len(steps)]})
		}
	}
	return list
}

func txnCalls() []namedCall[txnArgs] {
	return []namedCall[txnArgs]{
		{"OpFault", func(a txnArgs) any { return impl.OpFault(a.Op) }},
		{"DoOp", func(a txnArgs) any { return impl.DoOp(a.Raft, a.Op) }},
		{"PlanOp", func(a txnArgs) any { return impl.PlanOp(a.Disk, a.Op) }},
		{"CommitAt", func(a txnArgs) any { return impl.CommitAt(a.Steps) }},
		{"LocksFor", func(a txnArgs) any { return impl.LocksFor(a.Op) }},
		{"RunOps", func(a txnArgs) any { return impl.RunOps(a.Raft, a.Ops) }},
		{"RunOps of none", func(a txnArgs) any { return impl.RunOps(a.Raft, nil) }},
	}
}

func TestTxnCallsKeepToTheirArguments(t *testing.T) {
	wantCallsApart(t, txnCalls(), txnArgsList())
}

// What comes to nothing answers the store that was given, in new memory: the words of the snapshot, the log, the data of each entry.
func TestAStoreOfWhichNothingCameIsNewMemory(t *testing.T) {
	r := roomyCopy(knownStore())
	ops := []impl.Op{
		hardOp(5, 2), hardOp(6, 2), readOp(3), readOp(99), readOp(-1), compactOp(2, 1), installOp(3, 2, 1),
		appendOp(7, 6), appendOp(7, 5), appendOp(3, 2, r.Log...), appendOp(7, 5, entryOf(9, 5, 1)),
	}
	for _, o := range ops {
		done := impl.DoOp(r, o)
		wantRaft(t, "nothing came of it", impl.RaftResult{Code: done.Code, Raft: done.Raft}, knownStore())
		wantNewMemory(t, "DoOp", done, r, o)
		wantNewMemory(t, "RunOps", impl.RunOps(r, []impl.Op{o}), r, o)
	}
	wantNewMemory(t, "RunOps of all", impl.RunOps(r, ops), r, ops)
	wantNewMemory(t, "RunOps of none", impl.RunOps(r, nil), r)
	wantUnchanged(t, "the store", r, roomyCopy(knownStore()))
}

// Lists that stand in several places of an argument come to lists of their own.
func TestSharedWordsLeadToTransactionsOfTheirOwn(t *testing.T) {
	words := append(make([]int64, 0, 60), run(1, 6)...)
	r := impl.Raft{Term: 6, SnapIndex: 3, SnapTerm: 2, Snap: words, Log: []impl.Entry{{Index: 4, Term: 2, Data: words}, {Index: 5, Term: 3, Data: words}}}
	list := []impl.Entry{{Index: 6, Term: 3, Data: words}, {Index: 7, Term: 3, Data: words}}
	ops := []impl.Op{appendOp(5, 3, list...), compactOp(5, words...), installOp(6, 6, words...), appendOp(6, 6), hardOp(7, 1)}
	for _, o := range ops {
		wantNewMemory(t, "DoOp", impl.DoOp(r, o), r, o)
		wantNewMemory(t, "LocksFor", impl.LocksFor(o), o)
		for _, n := range []int{0, 24} {
			d := storeDisk(8, 20, n, r)
			wantNewMemory(t, "PlanOp", impl.PlanOp(d, o), d, o)
		}
	}
	for n := range len(ops) + 1 {
		wantNewMemory(t, "RunOps", impl.RunOps(r, ops[:n]), r, ops)
	}
	full := storeDisk(8, 20, 24, impl.Raft{Term: 6})
	block := homeImage(impl.Raft{Term: 6})[0].Words
	for at := 2; at < 26; at++ {
		full.Blocks[at] = block
	}
	wantStepsCode(t, "an install ahead", impl.PlanOp(full, hardOp(7, 1)), impl.OK)
	wantNewMemory(t, "an install ahead", impl.PlanOp(full, hardOp(7, 1)), full)
}

// What was given may be written to behind a call: what it answered hangs on it no more.
func TestTransactionsAreApartFromWhatWasGiven(t *testing.T) {
	o := impl.Op{Kind: impl.OpAppend, Index: 7, Term: 5, List: []impl.Entry{entryOf(8, 6, 1, 2)}}
	c := impl.Op{Kind: impl.OpCompact, Index: 6, Data: append(make([]int64, 0, 60), 5, 4)}
	r, d := knownStore(), storeDisk(8, 20, 24, knownStore())
	appended, all, steps := impl.DoOp(r, o), impl.RunOps(r, []impl.Op{o, c}), impl.PlanOp(d, o)
	want := plainPlan(storeDisk(8, 20, 24, knownStore()), appendOp(7, 5, entryOf(8, 6, 1, 2)))
	o.List[0].Data[1], o.List[0].Term, c.Data[0], r.Snap[0], r.Log[3].Data[0] = -77, -77, -77, -77, -77
	for _, words := range d.Blocks {
		for i := range words {
			words[i] = -77
		}
	}
	wantOpResult(t, "DoOp", appended, impl.OpResult{Raft: knownWith(func(r *impl.Raft) { r.Log = append(r.Log, entryOf(8, 6, 1, 2)) })})
	wantOpResult(t, "RunOps", all, impl.OpResult{Raft: impl.Raft{
		Term: 6, Vote: 2, SnapIndex: 6, SnapTerm: 3, Snap: []int64{5, 4}, Log: []impl.Entry{entryOf(7, 5, 70), entryOf(8, 6, 1, 2)},
	}})
	wantStepsResult(t, "PlanOp", steps, want)
}
