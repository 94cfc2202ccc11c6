package tests

import (
	"math"
	"math/rand"
	"slices"
	"testing"

	"loop.example/g00311/impl"
)

// Promise 1: the functions of who is picked answer at every argument. Here: which code, and which of two comes first.

func plainOwnersFault(list []impl.Owner) int64 {
	codes := []int64{notSo(len(list) > 40, impl.ErrMany)}
	last := int64(math.MinInt64)
	for _, o := range list {
		codes = append(codes, notSo(outside(o.At, 0, 39) || outside(o.Txn, 1, 99), impl.ErrRange), notSo(o.At <= last, impl.ErrForm))
		last = o.At
	}
	return firstCode(codes...)
}

// plainNext is what the next operation of a thread locks, of a thread whose At is within its bounds.
func plainNext(th impl.Thread) []int64 {
	for at, o := range th.Ops {
		if int64(at) == th.At {
			return opLocks(o).List
		}
	}
	return nil
}

func plainOpsFault(ops []impl.Op) int64 {
	codes := []int64{notSo(len(ops) > 6, impl.ErrMany)}
	for _, o := range ops {
		codes = append(codes, plainOpFault(o))
	}
	return firstCode(codes...)
}

// plainThreadFault asks of one thread all that is asked of it ahead of the next one.
func plainThreadFault(th impl.Thread) int64 {
	code := firstCode(plainOpsFault(th.Ops), notSo(outside(th.At, 0, int64(len(th.Ops))), impl.ErrRange))
	if code != impl.OK {
		return code
	}
	return notSo(outside(th.Need, 0, int64(len(plainNext(th)))), impl.ErrRange)
}

// plainHeld is who has each lock, of threads without a fault; not right where two have one.
func plainHeld(threads []impl.Thread) (plainLocks, bool) {
	var held plainLocks
	right := true
	for i, th := range threads {
		for k, at := range plainNext(th) {
			if int64(k) < th.Need {
				right = right && held[at] == 0
				held[at] = int64(i) + 1
			}
		}
	}
	return held, right
}

func plainHistoryFault(list []impl.Done, threads []impl.Thread) int64 {
	if len(list) > 60 {
		return impl.ErrMany
	}
	for _, d := range list {
		if outside(d.Thread, 0, int64(len(threads))-1) || outside(d.At, 0, threads[d.Thread].At-1) || outside(d.Reply, 0, 10) {
			return impl.ErrRange
		}
	}
	return impl.OK
}

func plainSchedFault(s impl.Sched) int64 {
	codes := []int64{plainWorldFault(s.World), notSo(len(s.Threads) > 8, impl.ErrMany)}
	for _, th := range s.Threads {
		codes = append(codes, plainThreadFault(th))
	}
	codes = append(codes, plainOwnersFault(s.Locks))
	if code := firstCode(codes...); code != impl.OK {
		return code
	}
	held, right := plainHeld(s.Threads)
	if !right || !slices.Equal(held.owners(), s.Locks) {
		return impl.ErrForm
	}
	return plainHistoryFault(s.History, s.Threads)
}

func plainNewSched(w impl.World, ops [][]impl.Op) impl.SchedResult {
	codes := []int64{plainWorldFault(w), notSo(len(ops) > 8, impl.ErrMany)}
	s := impl.Sched{World: w}
	for _, list := range ops {
		codes = append(codes, plainOpsFault(list))
		s.Threads = append(s.Threads, impl.Thread{Ops: list})
	}
	if code := firstCode(codes...); code != impl.OK {
		return impl.SchedResult{Code: code}
	}
	return impl.SchedResult{Sched: s}
}

// plainMove takes a schedule without a fault and a place, and answers the schedule then.
func plainMove(s impl.Sched, pick int64) (impl.Sched, bool) {
	th := s.Threads[pick]
	if th.At == int64(len(th.Ops)) {
		return s, false
	}
	held, _ := plainHeld(s.Threads)
	next := s
	next.Threads = slices.Clone(s.Threads)
	if needed := plainNext(th); th.Need < int64(len(needed)) {
		if held[needed[th.Need]] != 0 {
			return s, false
		}
		next.Threads[pick].Need++
		next.Locks = held.with(pick+1, needed[th.Need]).owners()
		return next, true
	}
	done := plainOpWorld(s.World, th.Ops[th.At])
	if done.Code != impl.OK || len(s.History) == 60 {
		return s, false
	}
	next.World = done.World
	next.Threads[pick].At, next.Threads[pick].Need = th.At+1, 0
	next.Locks = held.without(pick + 1).owners()
	next.History = append(slices.Clone(s.History), impl.Done{Thread: pick, At: th.At, Reply: done.Reply, Value: done.Value})
	return next, true
}

func plainRunSched(s impl.Sched, picks []int64) impl.SchedResult {
	codes := []int64{plainSchedFault(s), notSo(len(picks) > 200, impl.ErrMany)}
	for _, pick := range picks {
		codes = append(codes, notSo(outside(pick, 0, int64(len(s.Threads))-1), impl.ErrRange))
	}
	r := impl.SchedResult{Code: firstCode(codes...)}
	if r.Code != impl.OK {
		return r
	}
	r.Sched = s
	for _, pick := range picks {
		next, moved := plainMove(r.Sched, pick)
		r.Sched, r.Moved = next, r.Moved || moved
	}
	return r
}

func plainStepSched(s impl.Sched, pick int64) impl.SchedResult {
	return plainRunSched(s, []int64{pick})
}

// plainDrain counts no rounds: it ends, since there is no round that moves nothing.
func plainDrain(s impl.Sched) impl.SchedResult {
	r := impl.SchedResult{Code: plainSchedFault(s)}
	if r.Code != impl.OK {
		return r
	}
	r.Sched = s
	for again := true; again; {
		again = false
		for pick := range int64(len(s.Threads)) {
			next, moved := plainMove(r.Sched, pick)
			r.Sched, again = next, again || moved
		}
		r.Moved = r.Moved || again
	}
	return r
}

func plainBound(s impl.Sched) impl.IntResult {
	r := impl.IntResult{Code: plainSchedFault(s)}
	if r.Code != impl.OK {
		return r
	}
	for _, th := range s.Threads {
		for ; th.At < int64(len(th.Ops)); th.At++ {
			r.Value += int64(len(plainNext(th))) + 1
		}
	}
	return r
}

func plainEnded(s impl.Sched) bool {
	r := plainBound(s)
	return r.Code == impl.OK && r.Value == 0
}

func sameOps(a []impl.Op, b []impl.Op) bool {
	return slices.EqualFunc(a, b, func(x, y impl.Op) bool {
		numbers := x.Kind == y.Kind && x.Index == y.Index && x.Term == y.Term && x.Vote == y.Vote
		return numbers && slices.Equal(x.Data, y.Data) && plainSameRafts(impl.Raft{Log: x.List}, impl.Raft{Log: y.List})
	})
}

func sameThreads(a []impl.Thread, b []impl.Thread) bool {
	return slices.EqualFunc(a, b, func(x, y impl.Thread) bool {
		return x.At == y.At && x.Need == y.Need && sameOps(x.Ops, y.Ops)
	})
}

func sameScheds(a impl.Sched, b impl.Sched) bool {
	return sameWorlds(a.World, b.World) && sameThreads(a.Threads, b.Threads) && slices.Equal(a.Locks, b.Locks) && slices.Equal(a.History, b.History)
}

func wantSchedResult(t *testing.T, name string, r impl.SchedResult, want impl.SchedResult) {
	t.Helper()
	if r.Code != want.Code || r.Moved != want.Moved || !sameScheds(r.Sched, want.Sched) {
		t.Fatalf("%s: %v, want %v", name, r, want)
	}
}

func wantSchedCode(t *testing.T, name string, r impl.SchedResult, code int64) {
	t.Helper()
	wantCode(t, name, r.Code, !r.Moved && sameScheds(r.Sched, impl.Sched{}), code)
}

// wantSchedAsked holds each function against the plain one.
func wantSchedAsked(t *testing.T, name string, s impl.Sched, picks []int64) {
	t.Helper()
	if code, want := impl.SchedFault(s), plainSchedFault(s); code != want {
		t.Fatalf("%s: SchedFault %d, want %d", name, code, want)
	}
	for _, pick := range picks {
		wantSchedResult(t, name+": StepSched", impl.StepSched(s, pick), plainStepSched(s, pick))
	}
	wantSchedResult(t, name+": RunSched", impl.RunSched(s, picks), plainRunSched(s, picks))
	wantSchedResult(t, name+": DrainSched", impl.DrainSched(s), plainDrain(s))
	wantInt(t, name+": BoundOf", impl.BoundOf(s), plainBound(s))
	if ended := impl.EndedSched(s); ended != plainEnded(s) {
		t.Fatalf("%s: EndedSched %v", name, ended)
	}
	var ops [][]impl.Op
	for _, th := range s.Threads {
		ops = append(ops, th.Ops)
	}
	wantSchedResult(t, name+": NewSched", impl.NewSched(s.World, ops), plainNewSched(s.World, ops))
}

// wantSchedFault asks that a schedule has this code, and that each function that takes one tells it, whatever is wrong with the picks.
func wantSchedFault(t *testing.T, name string, s impl.Sched, want int64) {
	t.Helper()
	if code := impl.SchedFault(s); code != want {
		t.Errorf("%s: SchedFault %d, want %d", name, code, want)
	}
	if code := plainSchedFault(s); code != want {
		t.Errorf("%s: the plain one says %d, want %d", name, code, want)
	}
	wantSchedAsked(t, name, s, []int64{0, 1, 2, 3, 1})
	if want == impl.OK {
		return
	}
	for _, pick := range []int64{math.MinInt64, -1, 0, 1, int64(len(s.Threads)), math.MaxInt64} {
		wantSchedCode(t, name, impl.StepSched(s, pick), want)
		wantSchedCode(t, name, impl.RunSched(s, []int64{pick}), want)
		wantSchedCode(t, name, impl.RunSched(s, same(pick, 201)), want)
	}
	wantSchedCode(t, name, impl.RunSched(s, nil), want)
	wantSchedCode(t, name, impl.DrainSched(s), want)
	wantInt(t, name, impl.BoundOf(s), impl.IntResult{Code: want})
	if impl.EndedSched(s) {
		t.Errorf("%s: EndedSched in spite of a fault", name)
	}
}

// knownSched has no fault, and threads of each sort: in the midst, with some locks and with all, at their end, with no operation, at their beginning.
func knownSched() impl.Sched {
	return impl.Sched{
		World: knownWorld(6, 3),
		Threads: []impl.Thread{
			{Ops: []impl.Op{hardOp(7, 1), readOp(3), hardOp(8, 1)}, At: 1},
			{Ops: []impl.Op{compactOp(5, 1, 2), hardOp(9, 1)}, Need: 2},
			{Ops: []impl.Op{readOp(4), appendOp(7, 5, raisedLog(8, 4, 6)...)}, At: 1, Need: 3},
			{Ops: []impl.Op{readOp(4), readOp(1)}, At: 2},
			{},
			{Ops: []impl.Op{appendOp(11, 3, hollowLog(12, 4)...), installOp(9, 6, 7)}},
		},
		Locks:   []impl.Owner{{At: 0, Txn: 2}, {At: 1, Txn: 2}, {At: 2, Txn: 3}, {At: 32, Txn: 3}, {At: 33, Txn: 3}},
		History: []impl.Done{{Thread: 3, At: 0, Value: 2}, {Thread: 0, At: 0}, {Thread: 3, At: 1, Reply: impl.ErrOld}, {Thread: 2, At: 0, Value: 2}},
	}
}

type schedCase struct {
	name   string
	change func(s *impl.Sched)
	code   int64
}

// wantSchedCases changes the known schedule, alone and in a world that has a fault.
func wantSchedCases(t *testing.T, cases []schedCase) {
	t.Helper()
	for _, c := range cases {
		s := knownSched()
		c.change(&s)
		wantSchedFault(t, c.name, s, c.code)
		s.World.Raft.Vote = 3
		wantSchedFault(t, c.name+", in a world with a fault", s, impl.ErrState)
	}
}

func TestTheKnownSchedHasNoFault(t *testing.T) {
	wantSchedFault(t, "as it is", knownSched(), impl.OK)
	wantSchedFault(t, "the zero value", impl.Sched{}, impl.ErrForm)
	wantSchedFault(t, "a new world, nothing else", impl.Sched{World: impl.NewWorld(4).World}, impl.OK)
}

func TestSchedFaultAsksTheWorldFirst(t *testing.T) {
	worlds := []impl.World{{}, cachedWorld(1), {Disk: emptyDisk(66)}, {Disk: emptyDisk(71)}, {Disk: knownWorld(6, 3).Disk}, {Raft: impl.Raft{Term: 1000}}, knownWorld(65000, 24)}
	for _, c := range raftCases() {
		worlds = append(worlds, impl.World{Disk: knownWorld(6, 3).Disk, Raft: c.r})
	}
	for _, w := range worlds {
		code := plainWorldFault(w)
		s := knownSched()
		s.World = w
		wantSchedFault(t, "a world", s, code)
		for _, change := range []func(s *impl.Sched){
			func(s *impl.Sched) { s.Threads = append(s.Threads, make([]impl.Thread, 3)...) },
			func(s *impl.Sched) { s.Threads[0].Ops[0].Kind = 6 },
			func(s *impl.Sched) { s.Threads[0].At = 4 },
			func(s *impl.Sched) { s.Locks = ownersOf(0, 41, 1) },
			func(s *impl.Sched) { s.Locks = nil },
			func(s *impl.Sched) { s.History = make([]impl.Done, 61) },
			func(s *impl.Sched) { s.History[0].Reply = 11 },
		} {
			s := knownSched()
			s.World = w
			change(&s)
			wantSchedFault(t, "a world ahead of the rest", s, firstCode(code, plainSchedFault(s)))
			if impl.SchedFault(s) == impl.OK {
				t.Error("nothing is wrong with the rest")
			}
		}
	}
}

func TestHowManyThreads(t *testing.T) {
	for n, code := range map[int]int64{0: impl.OK, 1: impl.OK, 7: impl.OK, 8: impl.OK, 9: impl.ErrMany, 100: impl.ErrMany} {
		for _, th := range []impl.Thread{{}, {Ops: []impl.Op{readOp(3)}}, {Ops: []impl.Op{readOp(3)}, At: 1}} {
			s := impl.Sched{World: knownWorld(6, 3), Threads: slices.Repeat([]impl.Thread{th}, n)}
			wantSchedFault(t, "threads", s, code)
			wantSchedCode(t, "threads", impl.NewSched(s.World, slices.Repeat([][]impl.Op{th.Ops}, n)), code)
		}
		wrong := []impl.Thread{{Ops: make([]impl.Op, 7)}, {Ops: []impl.Op{{}}}, {At: 1}, {Need: 1}}
		for i, want := range []int64{impl.ErrMany, impl.ErrForm, impl.ErrRange, impl.ErrRange} {
			if n > 0 {
				s := impl.Sched{World: knownWorld(6, 3), Threads: slices.Repeat([]impl.Thread{wrong[i]}, n)}
				wantSchedFault(t, "threads ahead of what they are", s, firstCode(code, want))
				newCode := firstCode(code, notSo(i < 2, want))
				wantSchedCode(t, "threads ahead of what they are", impl.NewSched(s.World, slices.Repeat([][]impl.Op{wrong[i].Ops}, n)), newCode)
			}
		}
	}
}

func TestHowManyOperations(t *testing.T) {
	for n, code := range map[int]int64{0: impl.OK, 1: impl.OK, 5: impl.OK, 6: impl.OK, 7: impl.ErrMany, 61: impl.ErrMany} {
		for place := range 6 {
			ops := slices.Repeat([]impl.Op{readOp(3)}, n)
			s := impl.Sched{World: knownWorld(6, 3), Threads: make([]impl.Thread, 6)}
			s.Threads[place].Ops = ops
			lists := make([][]impl.Op, 6)
			lists[place] = ops
			wantSchedFault(t, "operations", s, code)
			wantSchedCode(t, "operations", impl.NewSched(s.World, lists), code)
			s.Threads[place].Ops = slices.Repeat([]impl.Op{{Kind: 6}}, n)
			lists[place] = s.Threads[place].Ops
			wantSchedFault(t, "how many ahead of what they are", s, firstCode(code, notSo(n > 0, impl.ErrForm)))
			wantSchedCode(t, "how many ahead of what they are", impl.NewSched(s.World, lists), firstCode(code, notSo(n > 0, impl.ErrForm)))
			s.Threads[place] = impl.Thread{Ops: ops, At: -1}
			wantSchedFault(t, "how many ahead of At", s, firstCode(code, impl.ErrRange))
		}
	}
}

func TestWhichOperations(t *testing.T) {
	w := knownWorld(6, 3)
	for _, c := range opCases() {
		for place := range 3 {
			ops := []impl.Op{readOp(3), hardOp(7, 1), readOp(4)}
			ops[place] = c.op
			for at := range int64(4) {
				s := impl.Sched{World: w, Threads: []impl.Thread{{}, {Ops: ops, At: at}}}
				if code := impl.SchedFault(s); code != c.code {
					t.Errorf("%s: SchedFault %d, want %d", c.name, code, c.code)
				}
			}
			wantSchedFault(t, c.name+", ahead of At", impl.Sched{World: w, Threads: []impl.Thread{{Ops: ops, At: 4}}}, firstCode(c.code, impl.ErrRange))
			wantSchedCode(t, c.name, impl.NewSched(w, [][]impl.Op{nil, ops}), c.code)
			wantSchedCode(t, c.name+", a fault of the world", impl.NewSched(impl.World{}, [][]impl.Op{ops}), impl.ErrForm)
		}
		// One by one: of two wrong operations the first one tells.
		ops := []impl.Op{readOp(3), c.op, {Kind: 6}, compactOp(1, -1)}
		wantSchedFault(t, c.name, impl.Sched{World: w, Threads: []impl.Thread{{Ops: ops}}}, firstCode(c.code, impl.ErrForm))
		wantSchedCode(t, c.name, impl.NewSched(w, [][]impl.Op{ops}), firstCode(c.code, impl.ErrForm))
	}
}

func TestAtAndNeedOfAThread(t *testing.T) {
	var cases []schedCase
	extremes := []int64{math.MinInt64, math.MinInt32 - 1, -1, 1 << 32, 1<<32 + 1, math.MaxInt64}
	add := func(name string, code int64, change func(s *impl.Sched)) {
		cases = append(cases, schedCase{name, change, code})
	}
	for _, number := range extremes {
		for place := range 6 {
			add("At", impl.ErrRange, func(s *impl.Sched) { s.Threads[place].At = number })
			add("Need", impl.ErrRange, func(s *impl.Sched) { s.Threads[place].Need = number })
			add("both", impl.ErrRange, func(s *impl.Sched) { s.Threads[place].At, s.Threads[place].Need = number, number })
		}
	}
	for at, code := range []int64{impl.OK, impl.OK, impl.OK, impl.OK, impl.ErrRange} {
		add("At of three", code, func(s *impl.Sched) { s.Threads[0].At, s.History = int64(at), nil })
	}
	add("At 1 of none", impl.ErrRange, func(s *impl.Sched) { s.Threads[4].At = 1 })
	add("Need 1 with no next one", impl.ErrRange, func(s *impl.Sched) { s.Threads[3].Need = 1 })
	add("Need 1 with no operation", impl.ErrRange, func(s *impl.Sched) { s.Threads[4].Need = 1 })
	for need, code := range []int64{impl.ErrForm, impl.ErrForm, impl.OK, impl.ErrForm, impl.ErrRange} {
		add("Need of a compaction", code, func(s *impl.Sched) { s.Threads[1].Need = int64(need) })
	}
	for need, code := range []int64{impl.ErrForm, impl.ErrForm, impl.ErrForm, impl.OK, impl.ErrForm, impl.ErrForm, impl.ErrRange} {
		add("Need of an append", code, func(s *impl.Sched) { s.Threads[2].Need = int64(need) })
	}
	for need, code := range []int64{impl.OK, impl.ErrForm, impl.ErrRange} {
		add("Need of a read", code, func(s *impl.Sched) { s.Threads[0].Need = int64(need) })
	}
	add("Need as of the one ahead", impl.ErrRange, func(s *impl.Sched) { s.Threads[1].At = 1 })
	add("Need with what is at its end", impl.ErrRange, func(s *impl.Sched) { s.Threads[1].At = 2 })
	wantSchedCases(t, cases)
}

// Each Need from none to all, with the locks that go with it.
func TestNeedAndLocksOfEachOperation(t *testing.T) {
	for _, o := range []impl.Op{hardOp(7, 1), readOp(3), appendOp(7, 5), appendOp(7, 5, entryOf(8, 6)), appendOp(11, 5, hollowLog(12, 4)...), compactOp(4), installOp(9, 6)} {
		locks := opLocks(o).List
		for need := int64(-1); need <= int64(len(locks))+1; need++ {
			s := impl.Sched{World: knownWorld(6, 3), Threads: []impl.Thread{{}, {Ops: []impl.Op{readOp(3), o, readOp(3)}, At: 1, Need: need}}}
			for _, at := range locks[:min(max(need, 0), int64(len(locks)))] {
				s.Locks = append(s.Locks, impl.Owner{At: at, Txn: 2})
			}
			code := notSo(outside(need, 0, int64(len(locks))), impl.ErrRange)
			wantSchedFault(t, "Need", s, code)
			if code != impl.OK {
				continue
			}
			for i := range s.Locks {
				less := s
				less.Locks = slices.Delete(slices.Clone(s.Locks), i, i+1)
				wantSchedFault(t, "a lock less", less, impl.ErrForm)
				other := s
				other.Locks = slices.Clone(s.Locks)
				other.Locks[i].Txn = 1
				wantSchedFault(t, "a lock of another one", other, impl.ErrForm)
			}
			for at := range int64(40) {
				var held plainLocks
				for _, o := range s.Locks {
					held[o.At] = 2
				}
				if held[at] == 0 {
					more := s
					more.Locks = held.with(2, at).owners()
					wantSchedFault(t, "a lock more", more, impl.ErrForm)
				}
			}
		}
	}
}

func TestLocksOfASched(t *testing.T) {
	var cases []schedCase
	add := func(name string, code int64, change func(s *impl.Sched)) {
		cases = append(cases, schedCase{name, change, code})
	}
	add("none", impl.ErrForm, func(s *impl.Sched) { s.Locks = nil })
	add("the first is left out", impl.ErrForm, func(s *impl.Sched) { s.Locks = s.Locks[1:] })
	add("the last is left out", impl.ErrForm, func(s *impl.Sched) { s.Locks = s.Locks[:4] })
	add("one in the midst is left out", impl.ErrForm, func(s *impl.Sched) { s.Locks = slices.Delete(s.Locks, 2, 3) })
	add("one too many behind", impl.ErrForm, func(s *impl.Sched) { s.Locks = append(s.Locks, impl.Owner{At: 34, Txn: 3}) })
	add("one too many of a thread with none", impl.ErrForm, func(s *impl.Sched) { s.Locks = append(s.Locks, impl.Owner{At: 39, Txn: 1}) })
	add("one too many of nobody there", impl.ErrForm, func(s *impl.Sched) { s.Locks = append(s.Locks, impl.Owner{At: 39, Txn: 7}) })
	add("one too many of the last txn", impl.ErrForm, func(s *impl.Sched) { s.Locks = append(s.Locks, impl.Owner{At: 39, Txn: 99}) })
	add("of another thread", impl.ErrForm, func(s *impl.Sched) { s.Locks[2].Txn = 2 })
	add("of the place, not of the place and 1", impl.ErrForm, func(s *impl.Sched) { s.Locks[0].Txn, s.Locks[1].Txn = 1, 1 })
	add("all of one", impl.ErrForm, func(s *impl.Sched) {
		for i := range s.Locks {
			s.Locks[i].Txn = 3
		}
	})
	add("another lock", impl.ErrForm, func(s *impl.Sched) { s.Locks[4].At = 34 })
	add("in another order", impl.ErrForm, func(s *impl.Sched) { s.Locks[0], s.Locks[1] = s.Locks[1], s.Locks[0] })
	add("thread by thread, not rising", impl.ErrForm, func(s *impl.Sched) { slices.Reverse(s.Locks) })
	add("one twice", impl.ErrForm, func(s *impl.Sched) { s.Locks = append(s.Locks, s.Locks[4]) })
	add("a lock that two have, told of the first", impl.ErrForm, func(s *impl.Sched) { s.Threads[0].Need, s.Locks[2].Txn = 1, 1 })
	add("a lock that two have, told of the second", impl.ErrForm, func(s *impl.Sched) { s.Threads[0].Need = 1 })
	add("a lock that two have, told of both", impl.ErrForm, func(s *impl.Sched) {
		s.Threads[0].Need, s.Locks = 1, slices.Insert(s.Locks, 2, impl.Owner{At: 2, Txn: 1})
	})
	add("a lock ahead of the history", impl.ErrForm, func(s *impl.Sched) { s.Locks, s.History = s.Locks[1:], make([]impl.Done, 61) })
	add("a thread ahead of the locks", impl.ErrMany, func(s *impl.Sched) { s.Threads[5].Ops, s.Locks = make([]impl.Op, 7), ownersOf(0, 40, 100) })
	add("the last Need ahead of the locks", impl.ErrRange, func(s *impl.Sched) { s.Threads[5].Need, s.Locks = 6, nil })
	for _, c := range ownersCases() {
		add("locks: "+c.name, firstCode(c.code, impl.ErrForm), func(s *impl.Sched) { s.Locks = c.list })
		add("locks ahead of the history: "+c.name, firstCode(c.code, impl.ErrForm), func(s *impl.Sched) { s.Locks, s.History = c.list, make([]impl.Done, 61) })
	}
	wantSchedCases(t, cases)
}

func TestHistoryOfASched(t *testing.T) {
	var cases []schedCase
	add := func(name string, code int64, change func(s *impl.Sched)) {
		cases = append(cases, schedCase{name, change, code})
	}
	good := impl.Done{Thread: 3, At: 1, Reply: 10, Value: 5}
	for n, code := range map[int]int64{0: impl.OK, 1: impl.OK, 59: impl.OK, 60: impl.OK, 61: impl.ErrMany, 200: impl.ErrMany} {
		add("how many", code, func(s *impl.Sched) { s.History = slices.Repeat([]impl.Done{good}, n) })
		if n > 0 {
			add("how many ahead of what they are", firstCode(code, impl.ErrRange), func(s *impl.Sched) { s.History = slices.Repeat([]impl.Done{{Thread: -1}}, n) })
			add("the last of them", firstCode(code, impl.ErrRange), func(s *impl.Sched) { s.History = append(slices.Repeat([]impl.Done{good}, n-1), impl.Done{Thread: 4}) })
		}
	}
	for _, number := range []int64{math.MinInt64, math.MinInt32 - 1, -1, 1 << 32, 1<<32 + 1, 1<<32 + 3, math.MaxInt64} {
		for i := range 4 {
			add("Thread", impl.ErrRange, func(s *impl.Sched) { s.History[i].Thread = number })
			add("At", impl.ErrRange, func(s *impl.Sched) { s.History[i].At = number })
			add("Reply", impl.ErrRange, func(s *impl.Sched) { s.History[i].Reply = number })
			add("Value", impl.OK, func(s *impl.Sched) { s.History[i].Value = number })
		}
	}
	for reply := range int64(13) {
		add("Reply", notSo(reply > 10, impl.ErrRange), func(s *impl.Sched) { s.History[2].Reply = reply })
	}
	// At 0 is one of what is at its end with the threads 0, 2 and 3 alone.
	for thread := range int64(8) {
		right := thread == 0 || thread == 2 || thread == 3
		add("Thread", notSo(!right, impl.ErrRange), func(s *impl.Sched) { s.History[0].Thread = thread })
		for at := range int64(4) {
			right := thread == 3 && at < 2 || (thread == 0 || thread == 2) && at == 0
			add("Thread and At", notSo(!right, impl.ErrRange), func(s *impl.Sched) { s.History[1].Thread, s.History[1].At = thread, at })
		}
	}
	add("no threads", impl.ErrRange, func(s *impl.Sched) { s.Threads, s.Locks = nil, nil })
	add("none, and no threads", impl.OK, func(s *impl.Sched) { s.Threads, s.Locks, s.History = nil, nil, nil })
	add("in no order", impl.OK, func(s *impl.Sched) { slices.Reverse(s.History) })
	add("one twice", impl.OK, func(s *impl.Sched) { s.History = append(s.History, s.History...) })
	wantSchedCases(t, cases)
}

// Thread by thread: whatever is wrong with a thread comes ahead of whatever is wrong with the next one; of one thread, how many ahead of which, and this ahead of its numbers.
func TestThreadsAreAskedOneByOne(t *testing.T) {
	seven := slices.Repeat([]impl.Op{{Kind: 6}}, 7)
	wrong := []struct {
		thread impl.Thread
		code   int64
	}{
		{impl.Thread{}, impl.OK},
		{impl.Thread{Ops: []impl.Op{readOp(3), readOp(4)}, At: 1}, impl.OK},
		{impl.Thread{Ops: seven, At: -1, Need: -1}, impl.ErrMany},
		{impl.Thread{Ops: seven}, impl.ErrMany},
		{impl.Thread{Ops: []impl.Op{readOp(3), {Kind: 6}}, At: 1, Need: 9}, impl.ErrForm},
		{impl.Thread{Ops: []impl.Op{compactOp(1, 65536), {Kind: 6}}, At: 3}, impl.ErrRange},
		{impl.Thread{Ops: []impl.Op{compactOp(1, run(0, 41)...)}, At: 3}, impl.ErrMany},
		{impl.Thread{Ops: []impl.Op{readOp(3)}, At: 2}, impl.ErrRange},
		{impl.Thread{Ops: []impl.Op{readOp(3)}, Need: 2}, impl.ErrRange},
		{impl.Thread{Ops: []impl.Op{readOp(3)}, At: 1, Need: 1}, impl.ErrRange},
	}
	for _, a := range wrong {
		for _, b := range wrong {
			for _, c := range wrong {
				s := impl.Sched{World: knownWorld(6, 3), Threads: []impl.Thread{a.thread, {}, b.thread, c.thread}}
				want := firstCode(a.code, b.code, c.code)
				if code := impl.SchedFault(s); code != want {
					t.Errorf("%v: %d, want %d", s.Threads, code, want)
				}
				s.Locks, s.History = ownersOf(0, 41, 1), make([]impl.Done, 61)
				if code := impl.SchedFault(s); code != firstCode(want, impl.ErrMany) {
					t.Errorf("%v ahead of the locks: %d, want %d", s.Threads, code, want)
				}
			}
		}
	}
	// NewSched asks of each list how many and which, ahead of the next list.
	w := knownWorld(6, 3)
	wantSchedCode(t, "which ahead of how many of the next", impl.NewSched(w, [][]impl.Op{{{Kind: 6}}, seven}), impl.ErrForm)
	wantSchedCode(t, "how many ahead of which of the next", impl.NewSched(w, [][]impl.Op{seven, {compactOp(1, -1)}}), impl.ErrMany)
	wantSchedCode(t, "which ahead of which of the next", impl.NewSched(w, [][]impl.Op{{compactOp(1, -1)}, {{Kind: 6}}}), impl.ErrRange)
}

// Done by done: it is one code, so that a fault of each one of many has to be found.
func TestEachOfTheHistoryIsAsked(t *testing.T) {
	for n := 1; n <= 60; n++ {
		for i := range n {
			s := knownSched()
			s.History = slices.Repeat([]impl.Done{{Thread: 3, At: 1}}, n)
			s.History[i].At = 2
			if code := impl.SchedFault(s); code != impl.ErrRange {
				t.Fatalf("%d of %d: %d", i, n, code)
			}
		}
	}
}

func TestPicks(t *testing.T) {
	for n := range 9 {
		s := impl.Sched{World: knownWorld(6, 3), Threads: make([]impl.Thread, n)}
		for _, pick := range []int64{math.MinInt64, math.MinInt32 - 1, -2, -1, 0, 1, int64(n) - 1, int64(n), int64(n) + 1, 8, 9, 1 << 32, math.MaxInt64} {
			code := notSo(outside(pick, 0, int64(n)-1), impl.ErrRange)
			wantSchedCode(t, "a pick", impl.StepSched(s, pick), code)
			wantSchedCode(t, "a pick alone", impl.RunSched(s, []int64{pick}), code)
			if n > 0 {
				wantSchedCode(t, "the last of 200", impl.RunSched(s, append(same(0, 199), pick)), code)
				wantSchedCode(t, "the first of 200", impl.RunSched(s, append([]int64{pick}, same(0, 199)...)), code)
				wantSchedCode(t, "the last of 201", impl.RunSched(s, append(same(0, 200), pick)), impl.ErrMany)
			}
			wantSchedCode(t, "201 of it", impl.RunSched(s, same(pick, 201)), impl.ErrMany)
			wantSchedCode(t, "100000 of it", impl.RunSched(s, same(pick, 100000)), impl.ErrMany)
		}
		wantSchedResult(t, "no picks", impl.RunSched(s, nil), impl.SchedResult{Sched: s})
	}
	// Nothing is done where one of the picks, the last one, is none.
	s := knownSched()
	for n := range 201 {
		picks := append(same(2, n), 6)
		wantSchedCode(t, "a pick behind some steps", impl.RunSched(s, picks), notSo(n < 200, impl.ErrRange)|notSo(n == 200, impl.ErrMany))
	}
	for _, n := range []int{0, 1, 2, 3, 199, 200} {
		wantSchedResult(t, "picks", impl.RunSched(s, same(2, n)), plainRunSched(s, same(2, n)))
	}
}

// spoilSched changes one thing of a schedule, which may come to a fault or to none.
func spoilSched(rnd *rand.Rand, s *impl.Sched) {
	number := []int64{math.MinInt64, -1, 0, 1, 2, 6, 11, math.MaxInt64}[rnd.Intn(8)]
	spoilThread := func(change func(th *impl.Thread)) {
		if len(s.Threads) > 0 {
			s.Threads = slices.Clone(s.Threads)
			change(&s.Threads[rnd.Intn(len(s.Threads))])
		}
	}
	switch rnd.Intn(9) {
	case 0:
		spoilWorld(rnd, &s.World)
	case 1:
		s.Threads = append(slices.Clone(s.Threads), make([]impl.Thread, rnd.Intn(10))...)
	case 2:
		spoilThread(func(th *impl.Thread) { th.Ops = slices.Repeat([]impl.Op{readOp(3)}, 5+rnd.Intn(3)) })
	case 3:
		spoilThread(func(th *impl.Thread) {
			if len(th.Ops) > 0 {
				th.Ops = slices.Clone(th.Ops)
				spoilOp(rnd, &th.Ops[rnd.Intn(len(th.Ops))])
			}
		})
	case 4:
		spoilThread(func(th *impl.Thread) { th.At = number })
	case 5:
		spoilThread(func(th *impl.Thread) { th.Need = number })
	case 6:
		s.Locks = append(slices.Clone(s.Locks), impl.Owner{At: rnd.Int63n(41), Txn: rnd.Int63n(9)})
	case 7:
		if len(s.Locks) > 0 {
			s.Locks = slices.Clone(s.Locks)
			s.Locks[rnd.Intn(len(s.Locks))] = impl.Owner{At: rnd.Int63n(41), Txn: rnd.Int63n(9)}
		}
	case 8:
		one := impl.Done{Thread: rnd.Int63n(7), At: rnd.Int63n(3), Reply: rnd.Int63n(12), Value: number}
		s.History = append(slices.Clone(s.History), slices.Repeat([]impl.Done{one}, []int{1, 1, 56, 57}[rnd.Intn(4)])...)
	}
}

// Schedules of which some things are spoilt, so that there are several faults at once.
func TestSchedsWithSeveralFaults(t *testing.T) {
	rnd := rand.New(rand.NewSource(151))
	codes := map[int64]int{}
	for range 3000 {
		s := knownSched()
		if rnd.Intn(2) == 0 {
			s = randomSched(rnd, 6)
			s = plainRunSched(s, randomTurns(rnd, s, rnd.Intn(20))).Sched
		}
		for range rnd.Intn(4) {
			spoilSched(rnd, &s)
		}
		wantSchedAsked(t, "several faults", s, []int64{rnd.Int63n(9) - 1, rnd.Int63n(3), rnd.Int63n(3)})
		codes[impl.SchedFault(s)]++
	}
	for _, code := range []int64{impl.OK, impl.ErrForm, impl.ErrMany, impl.ErrRange, impl.ErrNone, impl.ErrState} {
		if codes[code] < 10 {
			t.Errorf("code %d came just %d times", code, codes[code])
		}
	}
}

func TestNilAndEmptyAreTheSameToWhoIsPicked(t *testing.T) {
	s := knownSched()
	s.World.Disk.Cache = []impl.Put{}
	s.Threads[4].Ops = []impl.Op{}
	s.Threads[0].Ops[1].Data, s.Threads[0].Ops[1].List = []int64{}, []impl.Entry{}
	for pick := range int64(6) {
		wantSchedResult(t, "StepSched", impl.StepSched(s, pick), impl.StepSched(knownSched(), pick))
	}
	wantSchedResult(t, "RunSched", impl.RunSched(s, []int64{}), impl.RunSched(knownSched(), nil))
	wantSchedResult(t, "DrainSched", impl.DrainSched(s), impl.DrainSched(knownSched()))
	w := impl.NewWorld(4).World
	bare := impl.Sched{World: w, Threads: []impl.Thread{}, Locks: []impl.Owner{}, History: []impl.Done{}}
	wantSchedFault(t, "empty lists", bare, impl.OK)
	wantSchedResult(t, "NewSched", impl.NewSched(w, [][]impl.Op{}), impl.NewSched(w, nil))
	wantSchedResult(t, "NewSched of empty lists", impl.NewSched(w, [][]impl.Op{{}, nil}), impl.NewSched(w, [][]impl.Op{nil, {}}))
	if !impl.EndedSched(bare) || !impl.EndedSched(impl.Sched{World: w}) {
		t.Error("no threads are at their end")
	}
}
