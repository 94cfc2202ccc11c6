package tests

import (
	"math"
	"math/rand"
	"slices"
	"testing"

	"loop.example/g00311/impl"
)

// Promise 1: the functions of what it looks like from outside change no argument, their answers are new memory and hang on the arguments alone.

type auditArgs struct {
	Raft    impl.Raft
	Now     impl.Raft
	Sched   impl.Sched
	Threads []impl.Thread
	List    []impl.Done
	Thread  int64
}

func auditArgsList() []auditArgs {
	rnd := rand.New(rand.NewSource(167))
	begun := impl.RunSched(bigSched(), randomTurns(rnd, bigSched(), 60)).Sched
	ended := impl.DrainSched(bigSched()).Sched
	wrong, told, long := knownSched(), roomyCopy(ended), knownSched()
	wrong.World.Raft.Vote, told.History[2].Value = 3, 77
	long.History = slices.Repeat([]impl.Done{{Thread: 3, At: 1}}, 60)
	stores := []impl.Raft{{}, knownStore(), sizedStore(11, 40, 5), {Term: 1000}, extremeStore(math.MinInt64), ended.World.Raft}
	lists := [][]impl.Done{nil, {{Thread: 2, At: 1}}, {{Thread: math.MaxInt64}, {Thread: -1}, {Thread: math.MaxInt64, At: 1}}, make([]impl.Done, 61), ended.History}
	var list []auditArgs
	for i, s := range []impl.Sched{{}, {World: knownWorld(6, 3)}, knownSched(), bigSched(), begun, ended, wrong, told, long} {
		for k, r := range stores {
			now := stores[(i+k)%len(stores)]
			list = append(list, auditArgs{r, now, s, s.Threads, s.History, int64(k) - 1}, auditArgs{r, now, s, s.Threads, lists[(i+k)%len(lists)], int64(i)})
		}
	}
	return append(list, auditArgs{Raft: knownStore(), Threads: make([]impl.Thread, 9)}, auditArgs{Raft: knownStore(), Threads: knownThreads(), List: []impl.Done{{}, {Thread: 3, At: 1}}})
}

func auditCalls() []namedCall[auditArgs] {
	return []namedCall[auditArgs]{
		{"ReplayHistory", func(a auditArgs) any { return impl.ReplayHistory(a.Raft, a.Threads, a.List) }},
		{"OrderRight", func(a auditArgs) any { return impl.OrderRight(a.List) }},
		{"LinearRight", func(a auditArgs) any { return impl.LinearRight(a.Raft, a.Sched) }},
		{"KeptOf", func(a auditArgs) any { return impl.KeptOf(a.Raft, a.Now) }},
		{"CountDone", func(a auditArgs) any { return impl.CountDone(a.Sched, a.Thread) }},
	}
}

func TestAuditCallsKeepToTheirArguments(t *testing.T) {
	wantCallsApart(t, auditCalls(), auditArgsList())
}

// A replay of nothing, of what comes to nothing, and of what changes the store is a store of its own: Snap, the Log, the Data of each entry.
func TestAReplayedStoreIsNewMemory(t *testing.T) {
	ops := []impl.Op{
		readOp(3), readOp(99), hardOp(5, 2), hardOp(6, 2), compactOp(2, 1), appendOp(3, 2, knownStore().Log...),
		hardOp(7, 1), appendOp(7, 5, entryOf(8, 6, 1, 2), entryOf(9, 6, 3)), compactOp(5, run(1, 40)...), installOp(9, 6, run(1, 9)...),
	}
	threads := []impl.Thread{{}, {Ops: ops}}
	lists := [][]impl.Done{nil}
	for at := range int64(len(ops)) {
		lists = append(lists, []impl.Done{{Thread: 1, At: at}}, []impl.Done{{Thread: 1, At: 7}, {Thread: 1, At: at}, {Thread: 1}})
	}
	for _, list := range lists {
		r, ways, told := roomyCopy(knownStore()), roomyCopy(threads), roomyCopy(list)
		replayed := impl.ReplayHistory(r, ways, told)
		wantOpResult(t, "ReplayHistory", replayed, plainReplay(knownStore(), threads, list))
		wantNewMemory(t, "ReplayHistory", replayed, r, ways, told)
		wantUnchanged(t, "the store", r, roomyCopy(knownStore()))
		wantUnchanged(t, "the threads", ways, roomyCopy(threads))
		wantUnchanged(t, "what was done", told, roomyCopy(list))
	}
}

// Lists that stand in several places of an argument come to lists of their own.
func TestSharedListsLeadToAReplayOfItsOwn(t *testing.T) {
	words := append(make([]int64, 0, 60), run(1, 6)...)
	r := sharedWorld(words).Raft
	entries := append(make([]impl.Entry, 0, 9), impl.Entry{Index: 6, Term: 3, Data: words}, impl.Entry{Index: 7, Term: 3, Data: words})
	ops := append(make([]impl.Op, 0, 9), appendOp(5, 3, entries...), compactOp(5, words...), appendOp(5, 3, entries...), installOp(6, 6, words...), compactOp(6, words...))
	threads := []impl.Thread{{Ops: ops}, {Ops: ops}, {Ops: ops[:2]}}
	for at := range int64(5) {
		list := []impl.Done{{At: at}, {Thread: 1, At: at}, {Thread: 1}, {Thread: 2, At: 1}}
		for n := range 5 {
			wantNewMemory(t, "ReplayHistory", impl.ReplayHistory(r, threads, list[:n]), r, threads, list)
			wantReplayed(t, "shared or not", r, threads, list[:n], impl.OK)
		}
	}
}

// What was given may be written to behind a call: what it answered hangs on it no more.
func TestAReplayIsApartFromWhatWasGiven(t *testing.T) {
	threads := []impl.Thread{{Ops: []impl.Op{appendOp(7, 5, entryOf(8, 6, 1, 2)), {Kind: impl.OpCompact, Index: 6, Data: append(make([]int64, 0, 60), 5, 4)}}}}
	list, r := []impl.Done{{}, {At: 1}}, knownStore()
	nothing, all := impl.ReplayHistory(r, threads, nil), impl.ReplayHistory(r, threads, list)
	threads[0].Ops[0].List[0].Data[1], threads[0].Ops[0].List[0].Term, threads[0].Ops[1].Data[0] = -77, -77, -77
	list[0].At, r.Snap[0], r.Log[3].Data[0], r.Log[3].Term = -77, -77, -77, -77
	wantOpResult(t, "of nothing", nothing, impl.OpResult{Raft: knownStore()})
	wantOpResult(t, "of both", all, impl.OpResult{Raft: impl.Raft{
		Term: 6, Vote: 2, SnapIndex: 6, SnapTerm: 3, Snap: []int64{5, 4}, Log: []impl.Entry{entryOf(7, 5, 70), entryOf(8, 6, 1, 2)},
	}})
}

// Of many threads the answer hangs on what is told alone: it is the same again and again.
func TestOrderRightIsTheSameAgain(t *testing.T) {
	var right, wrong []impl.Done
	for i := range int64(400) {
		right = append(right, impl.Done{Thread: i % 97 * 31, At: i / 97})
		wrong = append(wrong, impl.Done{Thread: i % 97 * 31, At: i / 97})
	}
	wrong[333].At = 2
	for range 200 {
		wantBool(t, "right", impl.OrderRight(right), true)
		wantBool(t, "wrong", impl.OrderRight(wrong), false)
	}
}
