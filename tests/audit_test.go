package tests

import (
	"math"
	"math/rand"
	"slices"
	"testing"

	"loop.example/g00311/impl"
)

// Promise 16: whoever is picked, all that was done could have been done one behind the other, with the same answers, each thread's in its order; a history that is told is right just where it is one.

// worldOf is a world of any store without a fault.
func worldOf(r impl.Raft) impl.World {
	return impl.World{Disk: storeDisk(6, 20, 3, r), Raft: r}
}

// replayThreads: two that write, one that has nothing to do, one that reads.
func replayThreads() []impl.Thread {
	return []impl.Thread{
		{Ops: []impl.Op{hardOp(2, 1), appendOp(0, 0, entryOf(1, 1), entryOf(2, 2, 9))}},
		{Ops: []impl.Op{hardOp(3, 2), compactOp(1, 7)}},
		{},
		{Ops: []impl.Op{readOp(2), readOp(0), readOp(5)}},
	}
}

func TestReplayByHand(t *testing.T) {
	r := impl.Raft{Term: 1}
	appended := impl.Raft{Term: 2, Vote: 1, Log: []impl.Entry{entryOf(1, 1), entryOf(2, 2, 9)}}
	cut := impl.Raft{Term: 3, Vote: 2, SnapIndex: 1, SnapTerm: 1, Snap: []int64{7}, Log: []impl.Entry{entryOf(2, 2, 9)}}
	over := impl.Raft{Term: 3, Vote: 2, Log: appended.Log}
	cases := []struct {
		name string
		list []impl.Done
		want impl.OpResult
	}{
		{"nothing", nil, impl.OpResult{Raft: r}},
		{"a term", []impl.Done{{}}, impl.OpResult{Raft: impl.Raft{Term: 2, Vote: 1}}},
		{"the other term ahead", []impl.Done{{Thread: 1}, {Reply: impl.ErrOld}}, impl.OpResult{Raft: impl.Raft{Term: 3, Vote: 2}}},
		{"the other term behind", []impl.Done{{}, {Thread: 1}}, impl.OpResult{Raft: impl.Raft{Term: 3, Vote: 2}}},
		{"the other term behind, told as ahead", []impl.Done{{Reply: impl.ErrOld}, {Thread: 1}}, impl.OpResult{Value: 1, Raft: impl.Raft{Term: 3, Vote: 2}}},
		{"a read of what was appended", []impl.Done{{}, {At: 1}, {Thread: 3, Value: 2}}, impl.OpResult{Raft: appended}},
		{"a read ahead of it", []impl.Done{{}, {Thread: 3, Reply: impl.ErrNone}, {At: 1}}, impl.OpResult{Raft: appended}},
		{"a read ahead of it, told as behind", []impl.Done{{}, {Thread: 3, Value: 2}, {At: 1}}, impl.OpResult{Value: 1, Raft: appended}},
		{"an entry above the term", []impl.Done{{At: 1, Reply: impl.ErrForm}, {}}, impl.OpResult{Raft: impl.Raft{Term: 2, Vote: 1}}},
		{"an entry above the term, told as if not", []impl.Done{{At: 1}, {}}, impl.OpResult{Value: 1, Raft: impl.Raft{Term: 2, Vote: 1}}},
		{"all of them", []impl.Done{{}, {At: 1}, {Thread: 1}, {Thread: 3, Value: 2}, {Thread: 1, At: 1}, {Thread: 3, At: 1, Reply: impl.ErrOld}, {Thread: 3, At: 2, Reply: impl.ErrNone}}, impl.OpResult{Raft: cut}},
		{"of no thread in its order", []impl.Done{{Thread: 3, At: 1}, {}, {At: 1}, {Thread: 1, At: 1}, {Thread: 3, At: 1, Reply: impl.ErrOld}, {Thread: 1}}, impl.OpResult{Raft: cut}},
		{"some of them twice", []impl.Done{{}, {}, {At: 1}, {At: 1}, {Thread: 1}, {Thread: 1}}, impl.OpResult{Raft: over}},
		{"a compaction of nothing", []impl.Done{{Thread: 1}, {Thread: 1, At: 1, Reply: impl.ErrNone}}, impl.OpResult{Raft: impl.Raft{Term: 3, Vote: 2}}},
	}
	for _, c := range cases {
		wantOpResult(t, c.name, impl.ReplayHistory(r, replayThreads(), c.list), c.want)
		wantReplayed(t, c.name, r, replayThreads(), c.list, impl.OK)
	}
}

// Of each one Reply and Value are held against what is told, and both other count once.
func TestReplayCountsWhatIsToldOtherwise(t *testing.T) {
	right := []impl.Done{{}, {At: 1}, {Thread: 1}, {Thread: 3, Value: 2}, {Thread: 1, At: 1}, {Thread: 3, At: 1, Reply: impl.ErrOld}, {Thread: 3, At: 2, Reply: impl.ErrNone}}
	r := impl.Raft{Term: 1}
	store := impl.ReplayHistory(r, replayThreads(), right).Raft
	numbers := append(extremeNumbers(), 0, 1, 2, 3, 4, 5, 6, 7, 8, 9, 10, 11)
	for i, d := range right {
		for _, reply := range numbers {
			for _, value := range numbers {
				list := slices.Clone(right)
				list[i].Reply, list[i].Value = reply, value
				want := notSo(reply != d.Reply || value != d.Value, 1)
				wantOpResult(t, "one", impl.ReplayHistory(r, replayThreads(), list), impl.OpResult{Value: want, Raft: store})
			}
		}
	}
	for some := range 1 << len(right) {
		list, count := slices.Clone(right), int64(0)
		for i := range list {
			if some>>i&1 == 1 {
				count++
				list[i].Reply += int64(i % 3)
				list[i].Value -= int64(i%3) - 1
			}
		}
		if some>>1&1 == 1 {
			list[1].Value = 9
		}
		wantOpResult(t, "some", impl.ReplayHistory(r, replayThreads(), list), impl.OpResult{Value: count, Raft: store})
	}
	threads := []impl.Thread{{Ops: []impl.Op{readOp(0)}}}
	wantOpResult(t, "all of 60", impl.ReplayHistory(r, threads, slices.Repeat([]impl.Done{{Value: 1}}, 60)), impl.OpResult{Value: 60, Raft: r})
}

// A replay leads where the operations lead one behind the other, whatever is told of them.
func TestReplayIsAllOfThemOneBehindTheOther(t *testing.T) {
	rnd := rand.New(rand.NewSource(162))
	for range 400 {
		s := randomSched(rnd, 6)
		r, list, ops := s.World.Raft, []impl.Done(nil), []impl.Op(nil)
		for i, th := range s.Threads {
			for at, o := range th.Ops {
				list = append(list, impl.Done{Thread: int64(i), At: int64(at), Reply: rnd.Int63n(3) * rnd.Int63n(4), Value: rnd.Int63n(2)})
				ops = append(ops, o)
			}
		}
		rnd.Shuffle(len(list), func(i, k int) { list[i], list[k], ops[i], ops[k] = list[k], list[i], ops[k], ops[i] })
		wantReplayed(t, "in any order", r, s.Threads, list, impl.OK)
		wantRaft(t, "the store", impl.RaftResult{Raft: impl.ReplayHistory(r, s.Threads, list).Raft}, impl.RunOps(r, ops).Raft)
		cut := rnd.Intn(len(list) + 1)
		first := impl.ReplayHistory(r, s.Threads, list[:cut])
		second := impl.ReplayHistory(first.Raft, s.Threads, list[cut:])
		second.Value += first.Value
		wantOpResult(t, "in two parts", second, impl.ReplayHistory(r, s.Threads, list))
	}
}

func TestOrderRightByHand(t *testing.T) {
	least, most := int64(math.MinInt64), int64(math.MaxInt64)
	cases := []struct {
		name string
		list []impl.Done
		want bool
	}{
		{"none", nil, true},
		{"the first one", []impl.Done{{}}, true},
		{"the first one is at 1", []impl.Done{{At: 1}}, false},
		{"the first one is at -1", []impl.Done{{At: -1}}, false},
		{"the first one is at the least", []impl.Done{{At: least}}, false},
		{"the first one is at the most", []impl.Done{{At: most}}, false},
		{"the first one is at 2 to the 32", []impl.Done{{At: 1 << 32}}, false},
		{"three of one", []impl.Done{{}, {At: 1}, {At: 2}}, true},
		{"one left out", []impl.Done{{}, {At: 2}}, false},
		{"one left out, and told behind", []impl.Done{{}, {At: 2}, {At: 1}}, false},
		{"one twice", []impl.Done{{}, {}}, false},
		{"one twice, then on", []impl.Done{{}, {At: 1}, {At: 1}, {At: 2}}, false},
		{"one twice, and counted on", []impl.Done{{}, {}, {At: 2}}, false},
		{"one ahead of the one before it", []impl.Done{{At: 1}, {}}, false},
		{"from 1 on", []impl.Done{{At: 1}, {At: 2}}, false},
		{"downwards", []impl.Done{{At: 2}, {At: 1}, {}}, false},
		{"two, one between the other", []impl.Done{{}, {Thread: 1}, {At: 1}, {Thread: 1, At: 1}, {Thread: 1, At: 2}, {At: 2}}, true},
		{"two, one behind the other", []impl.Done{{Thread: 1}, {Thread: 1, At: 1}, {}, {At: 1}}, true},
		{"two, counted as one", []impl.Done{{}, {Thread: 1, At: 1}, {At: 2}}, false},
		{"the second one is wrong", []impl.Done{{}, {Thread: 1, At: 1}, {At: 1}}, false},
		{"the second one is wrong behind", []impl.Done{{}, {Thread: 1}, {At: 1}, {Thread: 1}}, false},
		{"the first one is wrong, the last is right", []impl.Done{{At: 1}, {Thread: 1}, {Thread: 2}}, false},
		{"Reply and Value are nothing to it", []impl.Done{{Reply: most, Value: least}, {At: 1, Reply: least, Value: most}}, true},
		{"threads that are no place", []impl.Done{{Thread: -1}, {Thread: most}, {Thread: least}, {Thread: most, At: 1}, {Thread: -1, At: 1}, {Thread: least, At: 1}}, true},
		{"threads that are no place, one left out", []impl.Done{{Thread: -1}, {Thread: most}, {Thread: -1, At: 2}}, false},
		{"threads that are no place, one twice", []impl.Done{{Thread: least}, {Thread: most}, {Thread: least}}, false},
		{"threads that have 32 bits in common", []impl.Done{{Thread: 1}, {Thread: 1<<32 + 1}, {Thread: -1<<32 + 1}}, true},
		{"threads that have 32 bits in common, counted as one", []impl.Done{{Thread: 1}, {Thread: 1<<32 + 1, At: 1}}, false},
	}
	for _, c := range cases {
		wantBool(t, c.name, impl.OrderRight(c.list), c.want)
		wantBool(t, c.name+", to the plain one", plainOrder(c.list), c.want)
	}
}

// All lists of up to five of two threads, of which one is no place.
func TestOrderRightOfAllSmallLists(t *testing.T) {
	var kinds []impl.Done
	for at := int64(-1); at < 4; at++ {
		kinds = append(kinds, impl.Done{At: at}, impl.Done{Thread: -3, At: at})
	}
	lists, right := [][]impl.Done{nil}, 0
	for n := range 6 {
		var longer [][]impl.Done
		for _, list := range lists {
			want := plainOrder(list)
			wantBool(t, "a small list", impl.OrderRight(list), want)
			right += int(notSo(want, 1))
			for _, d := range kinds {
				if n < 5 {
					longer = append(longer, append(slices.Clone(list), d))
				}
			}
		}
		lists = longer
	}
	if right != 1+2+4+8+16+30 { // of five, one thread has at most four
		t.Errorf("%d were right", right)
	}
}

// A history may be of any length here, and of any threads.
func TestOrderRightOfLongLists(t *testing.T) {
	for n, threads := range map[int]int64{60: 8, 61: 8, 1000: 3, 200000: 1, 200001: 7, 300000: 300000} {
		var list []impl.Done
		for i := range int64(n) {
			list = append(list, impl.Done{Thread: math.MaxInt64 - i%threads, At: i / threads, Value: i})
		}
		wantBool(t, "a long one", impl.OrderRight(list), true)
		for _, i := range []int{0, n / 2, n - 1} {
			d := list[i]
			list[i].At++
			wantBool(t, "one is later", impl.OrderRight(list), false)
			list[i].At = d.At - 1
			wantBool(t, "one is earlier", impl.OrderRight(list), false)
			list[i] = d
		}
		wantBool(t, "one more", impl.OrderRight(append(list, list[n-1])), false)
		wantBool(t, "without the first", impl.OrderRight(list[1:]), n == int(threads))
		wantBool(t, "without the last", impl.OrderRight(list[:n-1]), true)
	}
}

// linearSched has not begun, in a new world: thread 2 has nothing to do.
func linearSched() impl.Sched {
	return impl.NewSched(impl.NewWorld(4).World, [][]impl.Op{
		{hardOp(2, 1), readOp(2), hardOp(2, 1)},
		{appendOp(0, 0, entryOf(1, 1), entryOf(2, 2, 9)), compactOp(1, 7, 8)},
		nil,
		{readOp(0), hardOp(9, 9)},
		{compactOp(2, 5)},
		{readOp(1)},
	}).Sched
}

// begunSched is linearSched behind some picks: what was done hangs together, but for the last two, which may change places; thread 3 has not begun, thread 4 has two locks.
func begunSched(t *testing.T) impl.Sched {
	t.Helper()
	s := impl.RunSched(linearSched(), []int64{4, 0, 0, 1, 1, 4, 1, 1, 0, 0, 5, 5}).Sched
	want := []impl.Done{{}, {Thread: 1}, {At: 1, Value: 2}, {Thread: 5, Value: 1}}
	if !slices.Equal(s.History, want) || s.Threads[3].At != 0 || s.Threads[4].Need != 2 {
		t.Fatal(s.History, s.Threads)
	}
	return s
}

func TestLinearRightByHand(t *testing.T) {
	first := impl.Raft{}
	wantBool(t, "not begun", impl.LinearRight(first, linearSched()), true)
	wantBool(t, "locks alone", impl.LinearRight(first, impl.RunSched(linearSched(), []int64{0, 4, 4}).Sched), true)
	wantBool(t, "in the midst", impl.LinearRight(first, begunSched(t)), true)
	wantBool(t, "all at their end", impl.LinearRight(first, impl.DrainSched(begunSched(t)).Sched), true)
	bare := impl.Sched{World: impl.NewWorld(4).World}
	wantBool(t, "no threads", impl.LinearRight(first, bare), true)
	bare.Threads = make([]impl.Thread, 8)
	wantBool(t, "threads that have nothing to do", impl.LinearRight(first, bare), true)
	wantBool(t, "another store, and nothing done", impl.LinearRight(impl.Raft{Vote: 1}, bare), false)
	bare.Threads = make([]impl.Thread, 9)
	wantBool(t, "too many threads", impl.LinearRight(first, bare), false)
	bare.World = knownWorld(6, 3)
	bare.Threads = []impl.Thread{{Ops: []impl.Op{readOp(3)}}, {}}
	wantBool(t, "any world", impl.LinearRight(knownStore(), bare), true)
	wantBool(t, "of a new one", impl.LinearRight(first, bare), false)
	bare.Threads[0].At = 1
	wantBool(t, "a read that is not told", impl.LinearRight(knownStore(), bare), false)
	bare.History = []impl.Done{{Value: 2}}
	wantBool(t, "a read", impl.LinearRight(knownStore(), bare), true)
	bare.History = []impl.Done{{Value: 2}, {Value: 2}}
	wantBool(t, "a read that is told twice", impl.LinearRight(knownStore(), bare), false)
}

// The store that a history began with, and the store of its world, each with one thing other.
func TestLinearRightOfOtherStores(t *testing.T) {
	s := begunSched(t)
	wantBool(t, "as it is", impl.LinearRight(impl.Raft{}, s), true)
	for _, r := range []impl.Raft{{Term: 2, Vote: 2}, {Term: 3}, {Term: 999, Vote: 9}, {Term: 1, SnapIndex: 1, SnapTerm: 1}, {Term: 1, Log: []impl.Entry{entryOf(1, 1, 5)}}, knownStore()} {
		wantBool(t, "it began with another store", impl.LinearRight(r, s), false)
	}
	for _, r := range []impl.Raft{{Vote: 3}, {Term: 1, Vote: 9}, {Term: 2}, {Term: 2, Vote: 1}, {Term: 1, Log: []impl.Entry{entryOf(1, 1)}}, s.World.Raft} {
		wantBool(t, "it began with another store that leads there as well", impl.LinearRight(r, s), true)
	}
	for _, change := range []func(r *impl.Raft){
		func(r *impl.Raft) { r.Term++ },
		func(r *impl.Raft) { r.Vote = 0 },
		func(r *impl.Raft) { r.Vote = 2 },
		func(r *impl.Raft) { r.Log[1].Data[0]++ },
		func(r *impl.Raft) { r.Log[0].Data = []int64{0} },
		func(r *impl.Raft) { r.Log = r.Log[:1] },
		func(r *impl.Raft) { r.Log = append(r.Log, entryOf(3, 2)) },
		func(r *impl.Raft) { *r = impl.Raft{Term: 2, Vote: 1, SnapIndex: 1, SnapTerm: 1, Log: r.Log[1:]} },
		func(r *impl.Raft) { *r = impl.Raft{} },
	} {
		other := roomyCopy(s)
		change(&other.World.Raft)
		wantBool(t, "a store that the disk does not tell", impl.LinearRight(impl.Raft{}, other), false)
		other.World = worldOf(other.World.Raft)
		if impl.SchedFault(other) != impl.OK {
			t.Fatal(other.World.Raft)
		}
		wantBool(t, "it came to another store", impl.LinearRight(impl.Raft{}, other), false)
	}
	s.World = worldOf(s.World.Raft)
	wantBool(t, "it came to the store on another disk", impl.LinearRight(impl.Raft{}, s), true)
}

func TestLinearRightOfFaults(t *testing.T) {
	s := begunSched(t)
	for _, c := range raftCases() {
		bare := impl.Sched{World: impl.NewWorld(4).World, Threads: make([]impl.Thread, 2)}
		wantBool(t, c.name+", a new world", impl.LinearRight(c.r, bare), plainSameRafts(c.r, impl.Raft{}))
		if c.code != impl.OK {
			bare.World.Raft = c.r
			wantBool(t, c.name+", picks", impl.LinearRight(c.r, s) || impl.LinearRight(c.r, bare), false)
			continue
		}
		bare.World = worldOf(c.r)
		wantBool(t, c.name+", its world", impl.LinearRight(c.r, bare), true)
	}
	for _, change := range []func(s *impl.Sched){
		func(s *impl.Sched) { s.World.Disk.Cache = putsAt(28, 1) },
		func(s *impl.Sched) { s.Threads = append(s.Threads, make([]impl.Thread, 3)...) },
		func(s *impl.Sched) { s.Threads[2].Ops = make([]impl.Op, 7) },
		func(s *impl.Sched) { s.Threads[3].Ops[1].Kind = 6 },
		func(s *impl.Sched) { s.Threads[2].At = 1 },
		func(s *impl.Sched) { s.Threads[0].At = 1 },
		func(s *impl.Sched) { s.Threads[3].Need = 1 },
		func(s *impl.Sched) { s.Threads[4].Need = 0 },
		func(s *impl.Sched) { s.Locks = nil },
		func(s *impl.Sched) { s.Locks = ownersOf(0, 41, 5) },
		func(s *impl.Sched) { s.Locks[0].Txn = 4 },
		func(s *impl.Sched) { s.History[0].Thread = 6 },
		func(s *impl.Sched) { s.History[2].Reply = 11 },
		func(s *impl.Sched) { s.History = append(s.History, impl.Done{Thread: 3}) },
		func(s *impl.Sched) { s.History = append(s.History, make([]impl.Done, 60)...) },
	} {
		wrong := roomyCopy(s)
		change(&wrong)
		if impl.SchedFault(wrong) == impl.OK {
			t.Fatal("nothing is wrong with it")
		}
		wantBool(t, "a fault", impl.LinearRight(impl.Raft{}, wrong), false)
	}
	wantBool(t, "as it is", impl.LinearRight(impl.Raft{}, s), true)
}

// What is told of one that was done is other: left out, twice, with another answer; or a thread is said to have done more.
func TestLinearRightOfOtherHistories(t *testing.T) {
	s := begunSched(t)
	wantBool(t, "as it is", impl.LinearRight(impl.Raft{}, s), true)
	with := func(list []impl.Done) impl.Sched {
		other := s
		other.History = list
		return other
	}
	for i, d := range s.History {
		wantBool(t, "left out", impl.LinearRight(impl.Raft{}, with(slices.Delete(slices.Clone(s.History), i, i+1))), false)
		wantBool(t, "up to it", impl.LinearRight(impl.Raft{}, with(s.History[:i])), false)
		for k := range len(s.History) + 1 {
			wantBool(t, "twice", impl.LinearRight(impl.Raft{}, with(slices.Insert(slices.Clone(s.History), k, d))), false)
		}
		for _, number := range append(extremeNumbers(), 0, 1, 2, 3, 4, 5, 6, 7, 8, 9, 10, 11) {
			list := slices.Clone(s.History)
			list[i].Reply = number
			wantBool(t, "Reply", impl.LinearRight(impl.Raft{}, with(list)), number == d.Reply)
			list[i].Reply, list[i].Value = d.Reply, number
			wantBool(t, "Value", impl.LinearRight(impl.Raft{}, with(list)), number == d.Value)
			list[i].Value, list[i].At = d.Value, number
			wantBool(t, "At", impl.LinearRight(impl.Raft{}, with(list)), number == d.At)
			list[i].At, list[i].Thread = d.At, number
			wantBool(t, "Thread", impl.LinearRight(impl.Raft{}, with(list)), number == d.Thread)
		}
	}
	for i, th := range s.Threads {
		for at := th.At + 1; at <= int64(len(th.Ops)); at++ {
			more := roomyCopy(s)
			more.Threads[i].At, more.Threads[i].Need = at, 0
			more.Locks = slices.DeleteFunc(more.Locks, func(o impl.Owner) bool { return o.Txn == int64(i)+1 })
			if impl.SchedFault(more) != impl.OK {
				t.Fatal(more)
			}
			wantBool(t, "more was done", impl.LinearRight(impl.Raft{}, more), false)
		}
	}
}

// Another order is right just where it could have been so: two that may change places, and two that may not.
func TestLinearRightOfOtherOrders(t *testing.T) {
	s := begunSched(t)
	done := s.History
	right := map[[4]int]bool{{0, 1, 2, 3}: true, {0, 1, 3, 2}: true}
	for order := range 256 {
		places := [4]int{order >> 6, order >> 4 & 3, order >> 2 & 3, order & 3}
		other := s
		other.History = nil
		for _, place := range places {
			other.History = append(other.History, done[place])
		}
		wantBool(t, "an order", impl.LinearRight(impl.Raft{}, other), right[places])
	}
}

// ordersOf gives all orders of what threads have done, each one's in its order.
func ordersOf(left []int64, at []int64) [][]impl.Done {
	if slices.Max(left) == 0 {
		return [][]impl.Done{nil}
	}
	var orders [][]impl.Done
	for i := range left {
		if left[i] == 0 {
			continue
		}
		next, on := slices.Clone(left), slices.Clone(at)
		next[i]--
		on[i]++
		for _, rest := range ordersOf(next, on) {
			orders = append(orders, append([]impl.Done{{Thread: int64(i), At: at[i]}}, rest...))
		}
	}
	return orders
}

// answered tells an order with the answers that it has from a store on, and the store behind it.
func answered(r impl.Raft, threads []impl.Thread, order []impl.Done) ([]impl.Done, impl.Raft) {
	list := slices.Clone(order)
	for i, d := range list {
		done := plainDo(r, threads[d.Thread].Ops[d.At])
		list[i].Reply, list[i].Value, r = done.Reply, done.Value, done.Raft
	}
	return list, r
}

// wantJustOrders tells a schedule all orders of what it did, each with the answers of each other one: those are right that have their own answers and come to its store.
func wantJustOrders(t *testing.T, first impl.Raft, s impl.Sched) (int, int) {
	t.Helper()
	var left []int64
	for _, th := range s.Threads {
		left = append(left, th.At)
	}
	right, wrong := 0, 0
	orders := ordersOf(left, make([]int64, len(left)))
	for _, order := range orders {
		own, store := answered(first, s.Threads, order)
		leads := plainSameRafts(store, s.World.Raft)
		for _, other := range orders {
			told, _ := answered(first, s.Threads, other)
			list := slices.Clone(order)
			for i, d := range list {
				k := slices.IndexFunc(told, func(e impl.Done) bool { return e.Thread == d.Thread && e.At == d.At })
				list[i].Reply, list[i].Value = told[k].Reply, told[k].Value
			}
			s.History = list
			want := leads && slices.Equal(list, own)
			wantBool(t, "an order with answers", impl.LinearRight(first, s), want)
			right += int(notSo(want, 1))
			wrong += int(notSo(!want, 1))
		}
	}
	return right, wrong
}

func TestAHistoryIsRightJustWhereItIsOne(t *testing.T) {
	rnd := rand.New(rand.NewSource(163))
	sorts := [][][]impl.Op{
		{{hardOp(7, 1), readOp(7)}, {hardOp(8, 1), readOp(4)}},
		{{hardOp(7, 1)}, {hardOp(7, 2)}, {hardOp(8, 3)}},
		{{appendOp(7, 5, entryOf(8, 6)), readOp(8)}, {appendOp(6, 3, entryOf(7, 6)), readOp(8)}},
		{{compactOp(5, 1), readOp(4)}, {installOp(6, 3, 2), readOp(7)}},
		{{compactOp(5, 1)}, {appendOp(7, 5, entryOf(8, 6)), compactOp(8, 4)}, {readOp(8)}},
		{{readOp(3), readOp(4)}, {readOp(5)}, {}, {readOp(99)}},
		{{installOp(9, 6, 1)}, {installOp(8, 6, 1)}, {hardOp(7, 3)}},
	}
	right, wrong := 0, 0
	for _, lists := range sorts {
		s := impl.NewSched(knownWorld(6, 3), lists).Sched
		for range 4 {
			some := impl.RunSched(s, randomTurns(rnd, s, 4+rnd.Intn(9))).Sched
			for _, begun := range []impl.Sched{some, impl.DrainSched(some).Sched} {
				wantBool(t, "as it is", impl.LinearRight(knownStore(), begun), true)
				a, b := wantJustOrders(t, knownStore(), begun)
				right, wrong = right+a, wrong+b
			}
		}
	}
	if right < 300 || wrong < 600 {
		t.Errorf("%d were right, %d were not", right, wrong)
	}
}

// Whoever is picked: ahead of each step and behind it what is told is right, and no answer of it could be another one.
func TestWhoeverIsPickedWhatIsToldIsRight(t *testing.T) {
	rnd := rand.New(rand.NewSource(164))
	for range 120 {
		s := randomSched(rnd, 6)
		first := s.World.Raft
		for _, pick := range randomTurns(rnd, s, 60) {
			was := s.World.Raft
			s = impl.StepSched(s, pick).Sched
			wantBool(t, "LinearRight", impl.LinearRight(first, s) && impl.OrderRight(s.History), true)
			wantBool(t, "KeptOf", impl.KeptOf(was, s.World.Raft) && impl.KeptOf(first, s.World.Raft), true)
		}
		s = impl.DrainSched(s).Sched
		wantBool(t, "drained", impl.LinearRight(first, s), true)
		wantOpResult(t, "replayed", impl.ReplayHistory(first, s.Threads, s.History), impl.OpResult{Raft: s.World.Raft})
		for range 6 {
			other := s
			other.History = spoilDone(rnd, s.History)
			wantBool(t, "spoilt", impl.LinearRight(first, other), plainLinear(first, other))
		}
	}
}

func TestKeptOfByHand(t *testing.T) {
	hard := func(term int64, vote int64) impl.Raft { return impl.Raft{Term: term, Vote: vote} }
	snap := func(index int64, term int64) impl.Raft { return impl.Raft{Term: 5, SnapIndex: index, SnapTerm: term} }
	cases := []struct {
		name     string
		was, now impl.Raft
		want     bool
	}{
		{"the same", knownStore(), knownStore(), true},
		{"the first store", impl.Raft{}, impl.Raft{}, true},
		{"a Term above", hard(4, 1), hard(5, 1), true},
		{"a Term above, another Vote", hard(4, 1), hard(5, 2), true},
		{"a Term above, no Vote", hard(4, 1), hard(5, 0), true},
		{"a Term below", hard(4, 1), hard(3, 1), false},
		{"a Term below, another Vote", hard(4, 1), hard(3, 2), false},
		{"a Term below, no Vote", hard(4, 0), hard(3, 0), false},
		{"a Term far above", hard(0, 0), hard(999, 9), true},
		{"a Term far below", hard(999, 9), hard(0, 0), false},
		{"the same Term and Vote", hard(4, 1), hard(4, 1), true},
		{"the same Term, another Vote", hard(4, 1), hard(4, 2), false},
		{"the same Term, a Vote below", hard(4, 2), hard(4, 1), false},
		{"the same Term, a Vote that is gone", hard(4, 1), hard(4, 0), false},
		{"the same Term, a Vote that was not", hard(4, 0), hard(4, 1), true},
		{"the same Term, no Vote", hard(4, 0), hard(4, 0), true},
		{"term 0, another Vote", hard(0, 1), hard(0, 2), false},
		{"the last term, another Vote", hard(999, 1), hard(999, 2), false},
		{"the same SnapIndex", snap(5, 3), snap(5, 3), true},
		{"the same SnapIndex, another term", snap(5, 3), snap(5, 2), true},
		{"a SnapIndex above", snap(5, 3), snap(6, 3), true},
		{"a SnapIndex above, a term below", snap(5, 3), snap(6, 2), true},
		{"a SnapIndex below", snap(5, 3), snap(4, 3), false},
		{"a SnapIndex far below", snap(9999, 3), snap(1, 3), false},
		{"no snapshot any more", snap(1, 1), hard(5, 0), false},
		{"a snapshot that was not", hard(5, 0), snap(1, 1), true},
		{"a Term above, a SnapIndex below", snap(5, 3), impl.Raft{Term: 6, SnapIndex: 4, SnapTerm: 3}, false},
		{"a Term below, a SnapIndex above", snap(5, 3), impl.Raft{Term: 4, SnapIndex: 6, SnapTerm: 3}, false},
		{"a Log that is gone", knownStore(), knownWith(func(r *impl.Raft) { r.Log = nil }), true},
		{"a Log that was not", knownWith(func(r *impl.Raft) { r.Log = nil }), knownStore(), true},
		{"another Snap", knownStore(), knownWith(func(r *impl.Raft) { r.Snap[0]++ }), true},
	}
	for _, c := range cases {
		wantBool(t, c.name, impl.KeptOf(c.was, c.now), c.want)
		wantBool(t, c.name+", to the plain one", plainKept(c.was, c.now), c.want)
	}
}

// Each Vote in terms about one another, and each pair of small stores.
func TestKeptOfEachPair(t *testing.T) {
	kept, broken := 0, 0
	ask := func(was impl.Raft, now impl.Raft) {
		want := plainKept(was, now)
		wantBool(t, "a pair", impl.KeptOf(was, now), want)
		kept += int(notSo(want, 1))
		broken += int(notSo(!want, 1))
	}
	for vote := range int64(10) {
		for other := range int64(10) {
			for term := int64(3); term <= 5; term++ {
				for index := int64(3); index <= 5; index++ {
					ask(impl.Raft{Term: 4, Vote: vote, SnapIndex: 4, SnapTerm: 2}, impl.Raft{Term: term, Vote: other, SnapIndex: index, SnapTerm: 2})
				}
			}
		}
	}
	stores := smallStores()
	for _, was := range stores {
		for _, now := range stores {
			ask(was, now)
		}
	}
	if kept < 2000 || broken < 2000 {
		t.Errorf("%d were kept, %d were not", kept, broken)
	}
}

func TestKeptOfAsksBothFaults(t *testing.T) {
	good := []impl.Raft{{}, knownStore(), {Term: 999, SnapIndex: 9999, SnapTerm: 1}}
	for _, c := range raftCases() {
		wantBool(t, c.name+", of itself", impl.KeptOf(c.r, c.r), c.code == impl.OK)
		for _, r := range good {
			wantBool(t, c.name+", was", impl.KeptOf(c.r, r), plainKept(c.r, r))
			wantBool(t, c.name+", now", impl.KeptOf(r, c.r), plainKept(r, c.r))
			if c.code != impl.OK {
				wantBool(t, c.name+", was", impl.KeptOf(c.r, r) || impl.KeptOf(r, c.r), false)
			}
		}
	}
	first := impl.Raft{}
	for _, number := range extremeNumbers() {
		for _, r := range []impl.Raft{{Term: number}, {Vote: number}, {SnapIndex: number}, {SnapIndex: number, SnapTerm: 1, Term: 1}, extremeStore(number)} {
			wantBool(t, "a number that is not so", impl.KeptOf(first, r) || impl.KeptOf(r, first) || impl.KeptOf(r, r), false)
		}
	}
}

// Whatever is asked of a store, what it had to keep is kept; so also where it is cut off and opened again.
func TestWhatIsAskedIsKept(t *testing.T) {
	rnd := rand.New(rand.NewSource(165))
	for range 4000 {
		r := randomStore(rnd)
		o := randomOp(rnd, r)
		wantBool(t, "an operation", impl.KeptOf(r, impl.DoOp(r, o).Raft), true)
	}
	for range 40 {
		w := grownWorld(rnd)
		o := busyOp(rnd, w.Raft)
		for steps := range impl.StepsOf(w, o).Value + 1 {
			picks := []int64{rnd.Int63n(4), rnd.Int63n(4), rnd.Int63n(4)}
			now := impl.OpenDisk(impl.CrashWorld(w, o, steps, picks).Disk)
			wantBool(t, "cut off", now.Code == impl.OK && impl.KeptOf(w.Raft, now.World.Raft), true)
		}
	}
}

func TestCountDoneByHand(t *testing.T) {
	s := knownSched()
	for thread, want := range []int64{1, 0, 1, 2, 0, 0} {
		wantInt(t, "the known one", impl.CountDone(s, int64(thread)), impl.IntResult{Value: want})
	}
	// Nobody asks for the order, or what came of it.
	s.History = append(s.History, s.History[3], s.History[3], impl.Done{Thread: 3, At: 0, Reply: 10, Value: math.MinInt64})
	for thread, want := range []int64{1, 0, 3, 3, 0, 0} {
		wantInt(t, "told twice", impl.CountDone(s, int64(thread)), impl.IntResult{Value: want})
	}
	for n := range int64(61) {
		s.History = append(slices.Repeat([]impl.Done{{Thread: 3, At: 1}}, int(n)), slices.Repeat([]impl.Done{{Thread: 2}}, int(60-n))...)
		wantInt(t, "of 60", impl.CountDone(s, 3), impl.IntResult{Value: n})
		wantInt(t, "the rest of 60", impl.CountDone(s, 2), impl.IntResult{Value: 60 - n})
		wantInt(t, "did nothing", impl.CountDone(s, 4), impl.IntResult{})
	}
}

// In a schedule that came of a new one each thread has as many as its At.
func TestCountDoneIsAtOfEachThread(t *testing.T) {
	rnd := rand.New(rand.NewSource(166))
	for range 120 {
		s := randomSched(rnd, 6)
		s = impl.RunSched(s, randomTurns(rnd, s, rnd.Intn(150))).Sched
		all := int64(0)
		for i, th := range s.Threads {
			wantInt(t, "a thread", impl.CountDone(s, int64(i)), impl.IntResult{Value: th.At})
			all += th.At
		}
		if all != int64(len(s.History)) {
			t.Fatal(s.History)
		}
		wantInt(t, "-1", impl.CountDone(s, -1), impl.IntResult{Code: impl.ErrRange})
		wantInt(t, "one more", impl.CountDone(s, int64(len(s.Threads))), impl.IntResult{Code: impl.ErrRange})
	}
}
