package tests

import (
	"math"
	"math/rand"
	"slices"
	"testing"

	"loop.example/g00311/impl"
)

// Promise 1: the functions of what it looks like from outside answer at every argument. Here: which code, and which of two comes first.

// plainDoneOp is the operation that is told as done, if there is such a one.
func plainDoneOp(threads []impl.Thread, d impl.Done) (impl.Op, bool) {
	for i, th := range threads {
		for at, o := range th.Ops {
			if int64(i) == d.Thread && int64(at) == d.At {
				return o, true
			}
		}
	}
	return impl.Op{}, false
}

func plainReplayFault(r impl.Raft, threads []impl.Thread, list []impl.Done) int64 {
	codes := []int64{storeFault(r), notSo(len(threads) > 8 || len(list) > 60, impl.ErrMany)}
	for _, d := range list {
		o, there := plainDoneOp(threads, d)
		codes = append(codes, firstCode(notSo(!there, impl.ErrRange), plainOpFault(o)))
	}
	return firstCode(codes...)
}

func plainReplay(r impl.Raft, threads []impl.Thread, list []impl.Done) impl.OpResult {
	all := impl.OpResult{Code: plainReplayFault(r, threads, list)}
	if all.Code != impl.OK {
		return all
	}
	all.Raft = r
	for _, d := range list {
		o, _ := plainDoneOp(threads, d)
		one := plainDo(all.Raft, o)
		all.Raft = one.Raft
		all.Value += notSo(one.Reply != d.Reply || one.Value != d.Value, 1)
	}
	return all
}

func plainCount(list []impl.Done, thread int64) int64 {
	count := int64(0)
	for _, d := range list {
		count += notSo(d.Thread == thread, 1)
	}
	return count
}

// plainOrder asks of each how many of its thread were told ahead of it.
func plainOrder(list []impl.Done) bool {
	for i, d := range list {
		if d.At != plainCount(list[:i], d.Thread) {
			return false
		}
	}
	return true
}

func plainLinear(r impl.Raft, s impl.Sched) bool {
	if firstCode(plainSchedFault(s), storeFault(r)) != impl.OK || !plainOrder(s.History) {
		return false
	}
	for i, th := range s.Threads {
		if plainCount(s.History, int64(i)) != th.At {
			return false
		}
	}
	all := plainReplay(r, s.Threads, s.History)
	return all.Value == 0 && plainSameRafts(all.Raft, s.World.Raft)
}

func plainKept(was impl.Raft, now impl.Raft) bool {
	if firstCode(storeFault(was), storeFault(now)) != impl.OK {
		return false
	}
	sameTerm := now.Term == was.Term
	if now.Term < was.Term || sameTerm && was.Vote > 0 && now.Vote != was.Vote {
		return false
	}
	return now.SnapIndex >= was.SnapIndex
}

func plainCountDone(s impl.Sched, thread int64) impl.IntResult {
	code := firstCode(plainSchedFault(s), notSo(outside(thread, 0, int64(len(s.Threads))-1), impl.ErrRange))
	if code != impl.OK {
		return impl.IntResult{Code: code}
	}
	return impl.IntResult{Value: plainCount(s.History, thread)}
}

func wantBool(t *testing.T, name string, got bool, want bool) {
	t.Helper()
	if got != want {
		t.Fatalf("%s: %v", name, got)
	}
}

// wantReplayed holds a replay against the plain one, and asks for its code.
func wantReplayed(t *testing.T, name string, r impl.Raft, threads []impl.Thread, list []impl.Done, code int64) {
	t.Helper()
	replayed := impl.ReplayHistory(r, threads, list)
	wantOpResult(t, name, replayed, plainReplay(r, threads, list))
	if code != impl.OK {
		wantOpCode(t, name, replayed, code)
	} else if replayed.Code != impl.OK || replayed.Reply != 0 {
		t.Fatalf("%s: %v", name, replayed)
	}
}

// wantAuditAsked holds each function against the plain one.
func wantAuditAsked(t *testing.T, name string, r impl.Raft, s impl.Sched, thread int64) {
	t.Helper()
	wantOpResult(t, name+": ReplayHistory", impl.ReplayHistory(r, s.Threads, s.History), plainReplay(r, s.Threads, s.History))
	wantBool(t, name+": OrderRight", impl.OrderRight(s.History), plainOrder(s.History))
	wantBool(t, name+": LinearRight", impl.LinearRight(r, s), plainLinear(r, s))
	wantBool(t, name+": KeptOf", impl.KeptOf(r, s.World.Raft), plainKept(r, s.World.Raft))
	wantBool(t, name+": KeptOf, the other way", impl.KeptOf(s.World.Raft, r), plainKept(s.World.Raft, r))
	wantInt(t, name+": CountDone", impl.CountDone(s, thread), plainCountDone(s, thread))
}

// knownThreads have three operations, none, one, and two, the last of which has a fault.
func knownThreads() []impl.Thread {
	return []impl.Thread{
		{Ops: []impl.Op{readOp(4), hardOp(7, 1), appendOp(7, 5, entryOf(8, 6, 9))}},
		{},
		{Ops: []impl.Op{compactOp(5, 1, 2)}},
		{Ops: []impl.Op{readOp(3), {Kind: 6}}},
	}
}

// extremeNumbers are no place of anything, whatever is left of them in fewer bits.
func extremeNumbers() []int64 {
	return []int64{math.MinInt64, math.MinInt64 + 1, math.MinInt32 - 1, -1 << 32, -2, -1, 1 << 32, 1<<32 + 1, 1<<32 + 3, math.MaxInt64 - 1, math.MaxInt64}
}

func TestReplayAsksTheStoreFirst(t *testing.T) {
	many, lists := slices.Repeat(knownThreads(), 3), [][]impl.Done{
		nil, {{}}, {{Thread: 2}, {At: 1, Value: 3}}, {{Thread: -1}}, {{At: 3}}, {{Thread: 3, At: 1}}, make([]impl.Done, 60), make([]impl.Done, 61), slices.Repeat([]impl.Done{{Thread: 9}}, 61),
	}
	for _, c := range raftCases() {
		for _, list := range lists {
			for _, threads := range [][]impl.Thread{nil, knownThreads(), many} {
				wantReplayed(t, c.name, c.r, threads, list, firstCode(c.code, plainReplayFault(impl.Raft{}, threads, list)))
			}
		}
	}
}

func TestHowManyThreadsAreReplayed(t *testing.T) {
	for n, code := range map[int]int64{0: impl.OK, 1: impl.OK, 7: impl.OK, 8: impl.OK, 9: impl.ErrMany, 1000: impl.ErrMany} {
		for _, th := range []impl.Thread{{}, {Ops: []impl.Op{readOp(3)}}, {Ops: []impl.Op{{Kind: 6}}}, {At: -1, Need: 9}} {
			threads := slices.Repeat([]impl.Thread{th}, n)
			wantReplayed(t, "threads", knownStore(), threads, nil, code)
			wantReplayed(t, "threads ahead of a place", knownStore(), threads, []impl.Done{{Thread: int64(n)}}, firstCode(code, impl.ErrRange))
			want := int64(impl.ErrRange)
			if len(th.Ops) > 0 {
				want = plainOpsFault(th.Ops)
			}
			for thread := range int64(n) {
				wantReplayed(t, "threads ahead of what was done", knownStore(), threads, []impl.Done{{Thread: thread}}, firstCode(code, want))
			}
		}
	}
}

func TestHowManyDoneAreReplayed(t *testing.T) {
	good, place, at, wrong := impl.Done{Thread: 3, Value: 2}, impl.Done{Thread: 4}, impl.Done{Thread: 1}, impl.Done{Thread: 3, At: 1}
	for n, code := range map[int]int64{1: impl.OK, 59: impl.OK, 60: impl.OK, 61: impl.ErrMany, 200: impl.ErrMany, 100000: impl.ErrMany} {
		list := slices.Repeat([]impl.Done{good}, n)
		wantReplayed(t, "done", knownStore(), knownThreads(), list, code)
		wantReplayed(t, "done, with no threads", knownStore(), nil, list, firstCode(code, impl.ErrRange))
		for i, bad := range []impl.Done{place, at, wrong} {
			want := firstCode(code, []int64{impl.ErrRange, impl.ErrRange, impl.ErrForm}[i])
			wantReplayed(t, "the last one is not so", knownStore(), knownThreads(), append(slices.Clone(list[1:]), bad), want)
			wantReplayed(t, "the first one is not so", knownStore(), knownThreads(), append([]impl.Done{bad}, list[1:]...), want)
		}
	}
	wantReplayed(t, "nothing, with no threads", knownStore(), nil, nil, impl.OK)
	wantReplayed(t, "nothing, with threads", knownStore(), knownThreads(), nil, impl.OK)
}

// Each place of each thread, and those beside them.
func TestPlacesOfWhatWasDone(t *testing.T) {
	threads := knownThreads()
	for thread := int64(-2); thread <= 6; thread++ {
		for at := int64(-2); at <= 8; at++ {
			code := int64(impl.ErrRange)
			switch {
			case thread == 0 && at >= 0 && at <= 2, thread == 2 && at == 0, thread == 3 && at == 0:
				code = impl.OK
			case thread == 3 && at == 1:
				code = impl.ErrForm
			}
			wantReplayed(t, "a place", knownStore(), threads, []impl.Done{{Thread: thread, At: at}}, code)
			wantReplayed(t, "a place behind another", knownStore(), threads, []impl.Done{{At: 1}, {Thread: thread, At: at}}, code)
		}
	}
	for _, number := range extremeNumbers() {
		wantReplayed(t, "Thread", knownStore(), threads, []impl.Done{{Thread: number}}, impl.ErrRange)
		wantReplayed(t, "At", knownStore(), threads, []impl.Done{{At: number}}, impl.ErrRange)
		wantReplayed(t, "both", knownStore(), threads, []impl.Done{{Thread: number, At: number}}, impl.ErrRange)
		wantReplayed(t, "At of a thread that is none", knownStore(), threads, []impl.Done{{Thread: 4, At: number}}, impl.ErrRange)
		wantReplayed(t, "Reply and Value", knownStore(), threads, []impl.Done{{Reply: number, Value: number}}, impl.OK)
	}
	for n := range int64(8) {
		one := []impl.Thread{{Ops: slices.Repeat([]impl.Op{readOp(3)}, int(n))}}
		for at := int64(-1); at <= n+1; at++ {
			wantReplayed(t, "At of so many", knownStore(), one, []impl.Done{{At: at}}, notSo(outside(at, 0, n-1), impl.ErrRange))
		}
	}
}

// Done by done: whatever is wrong with one comes ahead of whatever is wrong with the next one, and of what its operation does.
func TestWhatWasDoneIsAskedOneByOne(t *testing.T) {
	threads := []impl.Thread{{Ops: []impl.Op{readOp(3), {Kind: 6}, compactOp(5, 65536)}}, {Ops: []impl.Op{compactOp(5, run(0, 41)...), appendOp(1, 1, entryOf(2, 0))}}}
	cases := []struct {
		done impl.Done
		code int64
	}{
		{impl.Done{}, impl.OK},
		{impl.Done{Reply: 11, Value: -1}, impl.OK},
		{impl.Done{Thread: -1}, impl.ErrRange},
		{impl.Done{Thread: 2}, impl.ErrRange},
		{impl.Done{At: -1}, impl.ErrRange},
		{impl.Done{At: 3}, impl.ErrRange},
		{impl.Done{At: 1}, impl.ErrForm},
		{impl.Done{At: 2}, impl.ErrRange},
		{impl.Done{Thread: 1}, impl.ErrMany},
		{impl.Done{Thread: 1, At: 1}, impl.ErrRange},
	}
	for _, a := range cases {
		for _, b := range cases {
			for _, c := range cases {
				wantReplayed(t, "three", knownStore(), threads, []impl.Done{a.done, b.done, c.done}, firstCode(a.code, b.code, c.code))
			}
		}
	}
}

// An operation is asked where it is told as done, and only there; of a thread nothing else is asked.
func TestReplayAsksJustWhatWasDone(t *testing.T) {
	for _, c := range opCases() {
		threads := []impl.Thread{{Ops: []impl.Op{readOp(3), c.op, readOp(4)}, At: -5, Need: 77}, {Ops: slices.Repeat([]impl.Op{c.op}, 9), At: 10}}
		wantReplayed(t, c.name+", not told", knownStore(), threads, []impl.Done{{}, {At: 2}}, impl.OK)
		wantReplayed(t, c.name+", told", knownStore(), threads, []impl.Done{{At: 2}, {At: 1}}, c.code)
		wantReplayed(t, c.name+", told, the last of nine", knownStore(), threads, []impl.Done{{Thread: 1, At: 8}}, c.code)
		wantReplayed(t, c.name+", ahead of a place", knownStore(), threads, []impl.Done{{At: 1}, {Thread: 2}}, firstCode(c.code, impl.ErrRange))
		wantReplayed(t, c.name+", behind a place", knownStore(), threads, []impl.Done{{At: 3}, {At: 1}}, impl.ErrRange)
		wantReplayed(t, c.name+", 61 of it", knownStore(), threads, slices.Repeat([]impl.Done{{At: 1}}, 61), impl.ErrMany)
	}
}

func TestCountDoneAsksTheSchedThenTheThread(t *testing.T) {
	places := append(extremeNumbers(), 0, 1, 2, 3, 4, 5, 6, 7, 8, 9)
	for n := range 9 {
		s := impl.Sched{World: knownWorld(6, 3), Threads: make([]impl.Thread, n)}
		for _, thread := range places {
			wantInt(t, "a thread", impl.CountDone(s, thread), impl.IntResult{Code: notSo(outside(thread, 0, int64(n)-1), impl.ErrRange)})
		}
	}
	for _, change := range []func(s *impl.Sched){
		func(s *impl.Sched) { s.World.Raft.Vote = 3 },
		func(s *impl.Sched) { s.World = impl.World{} },
		func(s *impl.Sched) { s.Threads = append(s.Threads, make([]impl.Thread, 3)...) },
		func(s *impl.Sched) { s.Threads[4].Ops = []impl.Op{{Kind: 6}} },
		func(s *impl.Sched) { s.Threads[5].At = 3 },
		func(s *impl.Sched) { s.Locks = nil },
		func(s *impl.Sched) { s.History = make([]impl.Done, 61) },
		func(s *impl.Sched) { s.History[3].Reply = 11 },
	} {
		s := knownSched()
		change(&s)
		code := plainSchedFault(s)
		if code == impl.OK {
			t.Fatal("nothing is wrong with it")
		}
		for _, thread := range places {
			wantInt(t, "a fault ahead of the thread", impl.CountDone(s, thread), impl.IntResult{Code: code})
		}
	}
}

// spoilDone changes one thing of what is told: another number, one left out, one told twice, two that change places.
func spoilDone(rnd *rand.Rand, list []impl.Done) []impl.Done {
	list = slices.Clone(list)
	if len(list) == 0 {
		return []impl.Done{{Thread: rnd.Int63n(4) - 1, At: rnd.Int63n(3) - 1}}
	}
	i, k := rnd.Intn(len(list)), rnd.Intn(len(list))
	number := []int64{math.MinInt64, -1, 0, 1, 2, 6, 11, math.MaxInt64}[rnd.Intn(8)]
	switch rnd.Intn(7) {
	case 0:
		list[i].Thread = number
	case 1:
		list[i].At = number
	case 2:
		list[i].Reply = number
	case 3:
		list[i].Value = number
	case 4:
		return slices.Delete(list, i, i+1)
	case 5:
		return slices.Insert(list, k, list[i])
	case 6:
		list[i], list[k] = list[k], list[i]
	}
	return list
}

// Stores, threads and histories of which some things are spoilt, so that there are several faults at once.
func TestAuditsWithSeveralFaults(t *testing.T) {
	rnd := rand.New(rand.NewSource(161))
	codes, right, wrong := map[int64]int{}, 0, 0
	for range 1500 {
		s := randomSched(rnd, 3)
		r := s.World.Raft
		s = plainRunSched(s, randomTurns(rnd, s, rnd.Intn(60))).Sched
		for range rnd.Intn(3) {
			s.History = spoilDone(rnd, s.History)
		}
		if rnd.Intn(3) == 0 {
			spoilStore(rnd, &r)
		}
		if rnd.Intn(3) == 0 {
			spoilSched(rnd, &s)
		}
		wantAuditAsked(t, "several faults", r, s, rnd.Int63n(10)-1)
		codes[impl.ReplayHistory(r, s.Threads, s.History).Code]++
		if impl.LinearRight(r, s) {
			right++
		} else {
			wrong++
		}
	}
	for _, code := range []int64{impl.OK, impl.ErrForm, impl.ErrMany, impl.ErrRange} {
		if codes[code] < 10 {
			t.Errorf("code %d came just %d times", code, codes[code])
		}
	}
	if right < 100 || wrong < 300 {
		t.Errorf("%d were right, %d were not", right, wrong)
	}
}

func TestNilAndEmptyAreTheSameFromOutside(t *testing.T) {
	bare := impl.Raft{Snap: []int64{}, Log: []impl.Entry{}}
	wantOpResult(t, "ReplayHistory", impl.ReplayHistory(bare, []impl.Thread{}, []impl.Done{}), impl.OpResult{})
	wantOpResult(t, "ReplayHistory of nil", impl.ReplayHistory(impl.Raft{}, nil, nil), impl.OpResult{})
	wantOpResult(t, "ReplayHistory of no operations", impl.ReplayHistory(bare, []impl.Thread{{Ops: []impl.Op{}}}, []impl.Done{{}}), impl.OpResult{Code: impl.ErrRange})
	wantBool(t, "OrderRight", impl.OrderRight([]impl.Done{}) && impl.OrderRight(nil), true)
	empty := impl.Sched{World: impl.NewWorld(4).World, Threads: []impl.Thread{{Ops: []impl.Op{}}}, Locks: []impl.Owner{}, History: []impl.Done{}}
	empty.World.Raft = bare
	wantBool(t, "LinearRight", impl.LinearRight(bare, empty) && impl.LinearRight(impl.Raft{}, empty), true)
	wantBool(t, "LinearRight of nil", impl.LinearRight(bare, impl.Sched{World: impl.NewWorld(4).World}), true)
	wantBool(t, "KeptOf", impl.KeptOf(bare, impl.Raft{}) && impl.KeptOf(impl.Raft{}, bare), true)
	wantInt(t, "CountDone", impl.CountDone(empty, 0), impl.IntResult{})
	wantInt(t, "CountDone of no threads", impl.CountDone(impl.Sched{World: empty.World}, 0), impl.IntResult{Code: impl.ErrRange})
}
