package tests

import (
	"math"
	"math/rand"
	"slices"
	"strings"
	"testing"

	"loop.example/g00311/impl"
)

// Promise 1: the functions of transactions answer at every argument. Here: which code, and which of two comes first.

func hardOp(term int64, vote int64) impl.Op {
	return impl.Op{Kind: impl.OpHard, Term: term, Vote: vote}
}

func appendOp(index int64, term int64, list ...impl.Entry) impl.Op {
	return impl.Op{Kind: impl.OpAppend, Index: index, Term: term, List: list}
}

func compactOp(index int64, data ...int64) impl.Op {
	return impl.Op{Kind: impl.OpCompact, Index: index, Data: data}
}

func installOp(index int64, term int64, data ...int64) impl.Op {
	return impl.Op{Kind: impl.OpInstall, Index: index, Term: term, Data: data}
}

func readOp(index int64) impl.Op {
	return impl.Op{Kind: impl.OpRead, Index: index}
}

// opHas names what the operation has that is not 0 or not empty.
func opHas(o impl.Op) []string {
	var names []string
	for i, there := range []bool{o.Index != 0, o.Term != 0, o.Vote != 0, len(o.Data) > 0, len(o.List) > 0} {
		if there {
			names = append(names, []string{"Index", "Term", "Vote", "Data", "List"}[i])
		}
	}
	return names
}

// opMayHave names what each kind has, as the chapter does.
func opMayHave(kind int64) (string, bool) {
	names, there := map[int64]string{1: "Term Vote", 2: "Index Term List", 3: "Index Data", 4: "Index Term Data", 5: "Index"}[kind]
	return names, there
}

func plainOpFault(o impl.Op) int64 {
	may, there := opMayHave(o.Kind)
	more := slices.ContainsFunc(opHas(o), func(name string) bool { return !strings.Contains(may, name) })
	return firstCode(notSo(!there || more, impl.ErrForm), notSo(len(o.List) > 4, impl.ErrMany), storeDataFault(o.Data), plainLogFault(o.List))
}

// plainDo is made of the plain ones of the store, and answers the store that it was given where there is a Reply.
func plainDo(r impl.Raft, o impl.Op) impl.OpResult {
	if code := firstCode(storeFault(r), plainOpFault(o)); code != impl.OK {
		return impl.OpResult{Code: code}
	}
	if o.Kind == 5 {
		term := storeTermAt(r, o.Index)
		return impl.OpResult{Reply: term.Code, Value: term.Value, Raft: r}
	}
	next := map[int64]impl.RaftResult{
		1: storeHard(r, o.Term, o.Vote),
		2: storeAppend(r, o.Index, o.Term, o.List),
		3: storeCompact(r, o.Index, o.Data),
		4: storeInstall(r, o.Index, o.Term, o.Data),
	}[o.Kind]
	if next.Code != impl.OK {
		return impl.OpResult{Reply: next.Code, Raft: r}
	}
	return impl.OpResult{Raft: next.Raft}
}

func plainRunOps(r impl.Raft, list []impl.Op) impl.OpResult {
	codes := []int64{storeFault(r), notSo(len(list) > 60, impl.ErrMany)}
	for _, o := range list {
		codes = append(codes, plainOpFault(o))
	}
	all := impl.OpResult{Code: firstCode(codes...)}
	if all.Code != impl.OK {
		return all
	}
	all.Raft = r
	for _, o := range list {
		one := plainDo(all.Raft, o)
		all.Raft = one.Raft
		all.Value += min(one.Reply, 1)
	}
	return all
}

// plainPlan takes a disk of 66 blocks that has no fault.
func plainPlan(d impl.Disk, o impl.Op) impl.StepsResult {
	h := plainHeaderIn(d)
	if code := firstCode(h.Code, plainOpFault(o)); code != impl.OK {
		return impl.StepsResult{Code: code}
	}
	homes := plainSeen(d)
	was := homeLoad(homes.view())
	if was.Code != impl.OK {
		return impl.StepsResult{Code: was.Code}
	}
	next := plainDo(was.Raft, o)
	if next.Reply != impl.OK {
		return impl.StepsResult{Code: impl.ErrState}
	}
	if plainSameRafts(was.Raft, next.Raft) {
		return impl.StepsResult{}
	}
	return plainPlanPuts(d, h.Header, homeDiff(homes.view(), homeImage(next.Raft)).Puts)
}

// plainPlanPuts takes at most 12 puts.
func plainPlanPuts(d impl.Disk, h impl.Header, puts []impl.Put) impl.StepsResult {
	if len(h.Addrs)+len(puts) <= 24 {
		if h.Seq == 65000 {
			return impl.StepsResult{Code: impl.ErrState}
		}
		return impl.StepsResult{Steps: plainAppend(d, puts)}
	}
	cached := notSo(len(d.Cache)+len(h.Addrs) > 200, impl.ErrMany)
	if code := firstCode(notSo(h.Seq == 65000, impl.ErrState), cached, notSo(h.Seq == 64999, impl.ErrState)); code != impl.OK {
		return impl.StepsResult{Code: code}
	}
	install := plainInstall(d)
	return impl.StepsResult{Steps: slices.Concat(install, plainAppend(plainRun(d, install), puts))}
}

func opLocks(o impl.Op) impl.IntsResult {
	if code := plainOpFault(o); code != impl.OK {
		return impl.IntsResult{Code: code}
	}
	var locked [40]bool
	locked[2] = true
	locked[0], locked[1] = o.Kind == 3 || o.Kind == 4, o.Kind == 3 || o.Kind == 4
	for _, e := range o.List {
		locked[24+e.Index%14] = true
	}
	var list []int64
	for at, is := range locked {
		if is {
			list = append(list, int64(at))
		}
	}
	return impl.IntsResult{List: list}
}

func wantOpResult(t *testing.T, name string, r impl.OpResult, want impl.OpResult) {
	t.Helper()
	if r.Code != want.Code || r.Reply != want.Reply || r.Value != want.Value || !plainSameRafts(r.Raft, want.Raft) {
		t.Fatalf("%s: %v, want %v", name, r, want)
	}
}

func wantOpCode(t *testing.T, name string, r impl.OpResult, code int64) {
	t.Helper()
	wantCode(t, name, r.Code, r.Reply == 0 && r.Value == 0 && plainSameRafts(r.Raft, impl.Raft{}), code)
}

func wantStepsResult(t *testing.T, name string, r impl.StepsResult, want impl.StepsResult) {
	t.Helper()
	if r.Code != want.Code || !sameSteps(r.Steps, want.Steps) {
		t.Fatalf("%s: %v, want %v", name, r, want)
	}
}

func wantIntsResult(t *testing.T, name string, r impl.IntsResult, want impl.IntsResult) {
	t.Helper()
	if r.Code != want.Code || !slices.Equal(r.List, want.List) {
		t.Fatalf("%s: %v, want %v", name, r, want)
	}
}

type opCase struct {
	name string
	op   impl.Op
	code int64
}

// opWith is an operation of that kind with one more thing.
func opWith(kind int64, name string, number int64, data []int64, list []impl.Entry) impl.Op {
	o := impl.Op{Kind: kind}
	switch name {
	case "Index":
		o.Index = number
	case "Term":
		o.Term = number
	case "Vote":
		o.Vote = number
	case "Data":
		o.Data = data
	case "List":
		o.List = list
	}
	return o
}

// foreignCases are of each kind with each thing that it has not, whatever that is, and with each number that it has, as great and as small as can be.
func foreignCases() []opCase {
	var cases []opCase
	numbers := []int64{math.MinInt64, math.MinInt32 - 1, -1, 1, 999, 1 << 32, math.MaxInt64}
	datas := [][]int64{{0}, {5}, same(1, 40), same(1, 41), {-1}, {65536}}
	lists := [][]impl.Entry{{{}}, hollowLog(1, 1), hollowLog(1, 4), hollowLog(1, 5), hollowLog(1, 15), {entryOf(2, 3), entryOf(2, 3)}}
	for kind := int64(1); kind <= 5; kind++ {
		may, _ := opMayHave(kind)
		for _, name := range []string{"Index", "Term", "Vote"} {
			for _, number := range numbers {
				code := notSo(!strings.Contains(may, name), impl.ErrForm)
				cases = append(cases, opCase{"a number: " + name, opWith(kind, name, number, nil, nil), code})
			}
		}
		for i := range datas {
			if !strings.Contains(may, "Data") {
				cases = append(cases, opCase{"Data that it has not", opWith(kind, "Data", 0, datas[i], nil), impl.ErrForm})
			}
			if !strings.Contains(may, "List") {
				cases = append(cases, opCase{"a List that it has not", opWith(kind, "List", 0, nil, lists[i]), impl.ErrForm})
			}
		}
		cases = append(cases, opCase{"nothing more", impl.Op{Kind: kind}, impl.OK})
		cases = append(cases, opCase{"empty lists", impl.Op{Kind: kind, Data: []int64{}, List: []impl.Entry{}}, impl.OK})
	}
	return cases
}

func opCases() []opCase {
	e := entryOf(2, 3, 9)
	cases := []opCase{
		{"the zero value", impl.Op{}, impl.ErrForm},
		{"no entries", appendOp(1, 3), impl.OK},
		{"one entry", appendOp(1, 3, e), impl.OK},
		{"4 entries", appendOp(1, 3, hollowLog(2, 4)...), impl.OK},
		{"5 entries", appendOp(1, 3, hollowLog(2, 5)...), impl.ErrMany},
		{"14 entries", appendOp(1, 3, hollowLog(2, 14)...), impl.ErrMany},
		{"15 entries", appendOp(1, 3, hollowLog(2, 15)...), impl.ErrMany},
		{"entries that do not go with the Index", appendOp(7, 3, e), impl.OK},
		{"entries that do not go with the Term", appendOp(1, 9, e), impl.OK},
		{"5 ahead of a word", appendOp(1, 3, slices.Repeat([]impl.Entry{entryOf(2, 3, -1)}, 5)...), impl.ErrMany},
		{"5 ahead of their form", appendOp(1, 3, slices.Repeat([]impl.Entry{e}, 5)...), impl.ErrMany},
		{"4 of one Index", appendOp(1, 3, slices.Repeat([]impl.Entry{e}, 4)...), impl.ErrForm},
		{"the last of 4 has a word too great", appendOp(1, 3, append(hollowLog(2, 3), entryOf(5, 3, 65536))...), impl.ErrRange},
		{"the last of 4 has too much data", appendOp(1, 3, append(hollowLog(2, 3), entryOf(5, 3, same(0, 7)...))...), impl.ErrMany},
		{"a Vote ahead of 5 entries", impl.Op{Kind: impl.OpAppend, Vote: 1, List: hollowLog(2, 5)}, impl.ErrForm},
		{"a Vote ahead of a word of an entry", impl.Op{Kind: impl.OpAppend, Vote: 1, List: []impl.Entry{entryOf(2, 3, -1)}}, impl.ErrForm},
		{"Data ahead of 5 entries", impl.Op{Kind: impl.OpAppend, Data: []int64{0}, List: hollowLog(2, 5)}, impl.ErrForm},
		{"a Term ahead of 41 words", impl.Op{Kind: impl.OpCompact, Term: 1, Data: same(0, 41)}, impl.ErrForm},
		{"a Vote ahead of 41 words", impl.Op{Kind: impl.OpInstall, Vote: 1, Data: same(0, 41)}, impl.ErrForm},
		{"a List ahead of a word", impl.Op{Kind: impl.OpInstall, Data: []int64{-1}, List: []impl.Entry{e}}, impl.ErrForm},
		{"a List ahead of 41 words", impl.Op{Kind: impl.OpCompact, Data: same(0, 41), List: []impl.Entry{e}}, impl.ErrForm},
		{"no kind ahead of 41 words", impl.Op{Kind: 6, Data: same(0, 41)}, impl.ErrForm},
		{"no kind ahead of 5 entries", impl.Op{Kind: 0, List: hollowLog(2, 5)}, impl.ErrForm},
		{"all numbers of an append as small as can be", impl.Op{Kind: impl.OpAppend, Index: math.MinInt64, Term: math.MinInt64}, impl.OK},
		{"all numbers of an install as great as can be", impl.Op{Kind: impl.OpInstall, Index: math.MaxInt64, Term: math.MaxInt64}, impl.OK},
		{"all numbers of a hard as small as can be", hardOp(math.MinInt64, math.MinInt64), impl.OK},
	}
	for _, c := range numberCases(1, 5) {
		cases = append(cases, opCase{"Kind is " + c.name, impl.Op{Kind: c.number}, notSo(c.code != impl.OK, impl.ErrForm)})
	}
	for _, c := range dataCases() {
		cases = append(cases, opCase{"compact, " + c.name, compactOp(4, c.words...), c.code})
		cases = append(cases, opCase{"install, " + c.name, installOp(4, 2, c.words...), c.code})
	}
	for _, c := range logCases() {
		code := c.code
		if len(c.log) > 4 {
			code = impl.ErrMany
		}
		cases = append(cases, opCase{"the List: " + c.name, appendOp(0, 0, c.log...), code})
	}
	return append(cases, foreignCases()...)
}

func TestOpFault(t *testing.T) {
	for _, c := range opCases() {
		if code := impl.OpFault(c.op); code != c.code {
			t.Errorf("%s: %v: %d, want %d", c.name, c.op, code, c.code)
		}
		if code := plainOpFault(c.op); code != c.code {
			t.Errorf("%s: the plain one says %d, want %d", c.name, code, c.code)
		}
	}
}

// randomOp has no fault, and goes with the store more often than not.
func randomOp(rnd *rand.Rand, r impl.Raft) impl.Op {
	index := r.SnapIndex - 1 + rnd.Int63n(int64(len(r.Log))+4)
	term := r.Term + 1 - rnd.Int63n(3)
	data := run(rnd.Int63n(9), rnd.Intn(41))
	switch rnd.Intn(8) {
	case 0:
		return hardOp(term, rnd.Int63n(4))
	case 1:
		return compactOp(index, data...)
	case 2:
		return installOp(index, term, data...)
	case 3:
		return readOp(index)
	}
	if rnd.Intn(2) == 0 {
		index = lastIndex(r)
	}
	list := randomGoOn(rnd, r, index)
	list = list[:min(len(list), rnd.Intn(5))]
	if plainLogFault(list) != impl.OK {
		list = nil
	}
	return appendOp(index, knownTerms(r)[index], list...)
}

// spoilOp changes one thing of an operation, which may come to a fault or to none.
func spoilOp(rnd *rand.Rand, o *impl.Op) {
	number := []int64{math.MinInt64, -1, 0, 1, 6, math.MaxInt64}[rnd.Intn(6)]
	switch rnd.Intn(7) {
	case 0:
		o.Kind = []int64{0, 1, 2, 3, 4, 5, 6, number}[rnd.Intn(8)]
	case 1:
		o.Index = number
	case 2:
		o.Term = number
	case 3:
		o.Vote = number
	case 4:
		o.Data = append(run(1, []int{0, 1, 39, 40, 41}[rnd.Intn(5)]), []int64{-1, 0, 65535, 65536}[rnd.Intn(4)])
	case 5:
		o.List = randomLog(rnd, rnd.Intn(7))
	case 6:
		if len(o.List) > 0 {
			o.List = copyLog(o.List)
			spoilEntry(rnd, &o.List[rnd.Intn(len(o.List))])
		}
	}
}

func TestOpFaultOfMany(t *testing.T) {
	rnd := rand.New(rand.NewSource(121))
	codes := map[int64]int{}
	for range 40000 {
		o := randomOp(rnd, randomStore(rnd))
		if impl.OpFault(o) != impl.OK {
			t.Fatal(o)
		}
		for range 1 + rnd.Intn(3) {
			spoilOp(rnd, &o)
		}
		want := plainOpFault(o)
		if code := impl.OpFault(o); code != want {
			t.Fatalf("%v: %d, want %d", o, code, want)
		}
		wantIntsResult(t, "LocksFor", impl.LocksFor(o), opLocks(o))
		codes[want]++
	}
	for _, code := range []int64{impl.OK, impl.ErrForm, impl.ErrMany, impl.ErrRange} {
		if codes[code] < 500 {
			t.Errorf("code %d came just %d times", code, codes[code])
		}
	}
}

// The fault of the store comes ahead of that of the operation, and both ahead of what it does.
func TestDoOpAsksTheStoreThenTheOperation(t *testing.T) {
	ops := []impl.Op{{}, hardOp(7, 1), hardOp(-1, 1), appendOp(7, 5, hollowLog(8, 5)...), compactOp(4, -1), compactOp(4), installOp(9, 6, same(0, 41)...), readOp(3), readOp(-1)}
	for _, c := range raftCases() {
		for _, o := range ops {
			code := firstCode(c.code, plainOpFault(o))
			if code != impl.OK {
				wantOpCode(t, c.name, impl.DoOp(c.r, o), code)
				wantOpCode(t, c.name, impl.RunOps(c.r, []impl.Op{o}), code)
			}
			wantOpResult(t, c.name, impl.DoOp(c.r, o), plainDo(c.r, o))
		}
		wantOpResult(t, c.name, impl.RunOps(c.r, nil), plainRunOps(c.r, nil))
		wantOpResult(t, c.name, impl.RunOps(c.r, make([]impl.Op, 61)), plainRunOps(c.r, make([]impl.Op, 61)))
	}
	for _, c := range opCases() {
		for _, r := range storesToAsk() {
			if code := firstCode(storeFault(r), c.code); code != impl.OK {
				wantOpCode(t, c.name, impl.DoOp(r, c.op), code)
			}
			wantOpResult(t, c.name, impl.DoOp(r, c.op), plainDo(r, c.op))
		}
		if c.code != impl.OK {
			wantIntsCode(t, c.name, impl.LocksFor(c.op), c.code)
		}
		wantIntsResult(t, c.name, impl.LocksFor(c.op), opLocks(c.op))
	}
}

func TestRunOpsCountsThem(t *testing.T) {
	r := knownStore()
	good, wrong := readOp(3), impl.Op{Kind: 6}
	wantOpResult(t, "none", impl.RunOps(r, nil), impl.OpResult{Raft: r})
	wantOpResult(t, "one", impl.RunOps(r, []impl.Op{good}), impl.OpResult{Raft: r})
	wantOpResult(t, "60", impl.RunOps(r, slices.Repeat([]impl.Op{good}, 60)), impl.OpResult{Raft: r})
	wantOpCode(t, "61", impl.RunOps(r, slices.Repeat([]impl.Op{good}, 61)), impl.ErrMany)
	wantOpCode(t, "61 with a fault", impl.RunOps(r, slices.Repeat([]impl.Op{wrong}, 61)), impl.ErrMany)
	wantOpCode(t, "61 of a store with a fault", impl.RunOps(impl.Raft{Term: 1000}, slices.Repeat([]impl.Op{good}, 61)), impl.ErrRange)
	wantOpCode(t, "60, the last with a fault", impl.RunOps(r, append(slices.Repeat([]impl.Op{good}, 59), wrong)), impl.ErrForm)
	wantOpCode(t, "60, the first with a fault", impl.RunOps(r, append([]impl.Op{wrong}, slices.Repeat([]impl.Op{good}, 59)...)), impl.ErrForm)
	wantOpResult(t, "60 that come to nothing", impl.RunOps(r, slices.Repeat([]impl.Op{readOp(2)}, 60)), impl.OpResult{Value: 60, Raft: r})
}

// One by one: the fault of an earlier operation comes ahead of that of a later one, whatever they are.
func TestRunOpsGoesOneByOne(t *testing.T) {
	list := opCases()
	for i, a := range list {
		for k := i % 7; k < len(list); k += 7 {
			b := list[k]
			ops := []impl.Op{hardOp(6, 2), a.op, readOp(99), b.op}
			if code := firstCode(a.code, b.code); code != impl.OK {
				wantOpCode(t, a.name+", "+b.name, impl.RunOps(knownStore(), ops), code)
			}
		}
	}
}

// Each kind with each Reply that it can come to; the store is as it was then.
func TestEachReply(t *testing.T) {
	r, full := knownStore(), impl.Raft{Term: 4, Log: hollowLog(1, 14)}
	cases := []struct {
		name  string
		r     impl.Raft
		op    impl.Op
		reply int64
	}{
		{"a term beyond its bounds", r, hardOp(1000, 2), impl.ErrRange},
		{"a term as small as can be", r, hardOp(math.MinInt64, 2), impl.ErrRange},
		{"a vote beyond its bounds", r, hardOp(7, 10), impl.ErrRange},
		{"a vote as great as can be", r, hardOp(7, math.MaxInt64), impl.ErrRange},
		{"a term that is over", r, hardOp(5, 2), impl.ErrOld},
		{"another vote", r, hardOp(6, 3), impl.ErrOld},
		{"an entry of another index", r, appendOp(7, 5, entryOf(9, 5)), impl.ErrForm},
		{"an entry of a term above", r, appendOp(7, 5, entryOf(8, 7)), impl.ErrForm},
		{"an append below the snapshot", r, appendOp(2, 2), impl.ErrOld},
		{"an append as small as can be", r, appendOp(math.MinInt64, 0), impl.ErrOld},
		{"an append above the log", r, appendOp(8, 5), impl.ErrNone},
		{"an append as great as can be", r, appendOp(math.MaxInt64, 0), impl.ErrNone},
		{"an append behind another term", r, appendOp(7, 6), impl.ErrState},
		{"an append behind a term as great as can be", r, appendOp(7, math.MaxInt64), impl.ErrState},
		{"no room", full, appendOp(14, 3, entryOf(15, 3)), impl.ErrFull},
		{"no room for the last of 4", full, appendOp(11, 3, raisedLog(12, 4, 4)...), impl.ErrFull},
		{"a compaction that is over", r, compactOp(3, 1), impl.ErrOld},
		{"a compaction below 0", r, compactOp(math.MinInt64), impl.ErrOld},
		{"a compaction above the log", r, compactOp(8, 1), impl.ErrNone},
		{"an install beyond all indexes", r, installOp(10000, 6), impl.ErrRange},
		{"an install of a term above", r, installOp(9, 7), impl.ErrRange},
		{"an install of no term", r, installOp(9, 0), impl.ErrRange},
		{"an install that is over", r, installOp(3, 6), impl.ErrOld},
		{"an install of a term below", r, installOp(9, 1), impl.ErrState},
		{"a read below the snapshot", r, readOp(2), impl.ErrOld},
		{"a read as small as can be", r, readOp(math.MinInt64), impl.ErrOld},
		{"a read above the log", r, readOp(8), impl.ErrNone},
		{"a read as great as can be", r, readOp(math.MaxInt64), impl.ErrNone},
	}
	for _, c := range cases {
		wantOpResult(t, c.name, impl.DoOp(c.r, c.op), impl.OpResult{Reply: c.reply, Raft: c.r})
		wantOpResult(t, c.name+", run", impl.RunOps(c.r, []impl.Op{c.op}), impl.OpResult{Value: 1, Raft: c.r})
		wantStepsCode(t, c.name+", planned", impl.PlanOp(storeDisk(6, 0, 0, c.r), c.op), impl.ErrState)
	}
}

// storeDisk has n puts in its log, of the blocks of the store in turns; the last one of each has its words, all others have such as are over, and so have the home blocks of these.
func storeDisk(seq int64, start int64, n int, r impl.Raft) impl.Disk {
	d := emptyDisk(66)
	image := homeImage(r)
	h := impl.Header{Seq: seq, Start: start}
	for i := range n {
		p := image[i%len(image)]
		h.Addrs = append(h.Addrs, p.At)
		words := p.Words
		if i+len(image) < n {
			words = run(int64(7*i), 3)
		}
		d.Blocks[2+plainSlot(start, i)] = words
	}
	for i, p := range image {
		if i >= n {
			d.Blocks[26+p.At] = p.Words
		} else {
			d.Blocks[26+p.At] = run(90, 1+i)
		}
	}
	d.Blocks[seq%2] = plainPack(h)
	return d
}

func TestPlanOpAsksTheDiskFirst(t *testing.T) {
	ops := []impl.Op{{}, hardOp(7, 1), hardOp(-1, 0), appendOp(0, 0, hollowLog(1, 5)...), compactOp(1, -1), readOp(0), readOp(9)}
	for _, c := range headerInCases() {
		wantPutsCode(t, c.name, impl.ViewOf(c.disk), c.code)
		for _, o := range ops {
			wantStepsCode(t, c.name, impl.PlanOp(c.disk, o), c.code)
		}
	}
}

// The fault of the operation comes ahead of a view that is no store, and that ahead of what the operation comes to.
func TestPlanOpAsksTheOperationThenTheView(t *testing.T) {
	text := storeDisk(6, 3, 2, knownStore())
	text.Blocks[26+23] = []int64{1}
	for _, c := range opCases() {
		wantStepsCode(t, c.name, impl.PlanOp(text, c.op), firstCode(c.code, impl.ErrText))
		for _, d := range []impl.Disk{formatted(4), storeDisk(6, 3, 2, knownStore()), storeDisk(65000, 3, 24, knownStore())} {
			if c.code != impl.OK {
				wantStepsCode(t, c.name, impl.PlanOp(d, c.op), c.code)
			}
			wantStepsResult(t, c.name, impl.PlanOp(d, c.op), plainPlan(d, c.op))
		}
	}
}

func TestPlanOpOfAViewThatIsNoStore(t *testing.T) {
	ops := []impl.Op{hardOp(7, 1), hardOp(-1, 1), appendOp(7, 5, entryOf(8, 6)), compactOp(4, 1), installOp(9, 6, 1), readOp(3), readOp(99)}
	for _, r := range []impl.Raft{{}, knownStore(), sizedStore(11, 40, 14)} {
		for _, at := range []int64{0, 1, 2, 3, 22, 23, 24, 28, 37, 38, 39} {
			for _, words := range [][]int64{nil, {0}, {1, 2, 0}, same(9, 64)} {
				d := storeDisk(6, 3, 0, r)
				d.Blocks[26+at] = words
				homes := plainSeen(d)
				for _, o := range ops {
					if code := homeLoad(homes.view()).Code; code != impl.OK {
						wantStepsCode(t, "no store", impl.PlanOp(d, o), code)
					}
					wantStepsResult(t, "another block", impl.PlanOp(d, o), plainPlan(d, o))
				}
			}
		}
	}
}

func TestPlanOpAtTheLastSeq(t *testing.T) {
	r := knownStore()
	change, big := hardOp(7, 1), installOp(9, 6, run(1, 40)...) // one block, and eight
	cases := []struct {
		name string
		seq  int64
		n    int
		op   impl.Op
		code int64
	}{
		{"room, two ahead of the last", 64998, 0, change, impl.OK},
		{"room, one ahead of the last", 64999, 0, change, impl.OK},
		{"room, the last", 65000, 0, change, impl.ErrState},
		{"just room, one ahead of the last", 64999, 23, change, impl.OK},
		{"just room, the last", 65000, 23, change, impl.ErrState},
		{"no room, two ahead of the last", 64998, 24, change, impl.OK},
		{"no room, one ahead of the last", 64999, 24, change, impl.ErrState},
		{"no room, the last", 65000, 24, change, impl.ErrState},
		{"just room for eight, one ahead of the last", 64999, 16, big, impl.OK},
		{"no room for eight, one ahead of the last", 64999, 17, big, impl.ErrState},
		{"no room for eight, two ahead of the last", 64998, 17, big, impl.OK},
		{"the last, but nothing changes", 65000, 24, hardOp(6, 2), impl.OK},
		{"the last, but it is read", 65000, 24, readOp(3), impl.OK},
		{"the last, and a Reply", 65000, 24, readOp(2), impl.ErrState},
	}
	for _, c := range cases {
		d := storeDisk(c.seq, 5, c.n, r)
		wantStepsCode(t, c.name, impl.PlanOp(d, c.op), c.code)
		wantStepsResult(t, c.name, impl.PlanOp(d, c.op), plainPlan(d, c.op))
	}
	wantStepsCode(t, "formatted with the last", impl.PlanOp(formatted(65000), change), impl.ErrState)
	wantStepsCode(t, "formatted with the last, nothing changes", impl.PlanOp(formatted(65000), hardOp(0, 0)), impl.OK)
}

// An install is run to see what is behind it, and has the code of a full cache; an append alone is planned and not run.
func TestPlanOpOfAFullCache(t *testing.T) {
	for _, n := range []int{0, 1, 23, 24} {
		for _, cached := range []int{0, 1, 175, 176, 177, 199, 200} {
			for _, seq := range []int64{6, 64999, 65000} {
				d := storeDisk(seq, 5, n, knownStore())
				d.Cache = slices.Repeat([]impl.Put{{At: 28, Words: plainRead(d, 28)}}, cached)
				for _, o := range []impl.Op{hardOp(7, 1), hardOp(6, 2), readOp(1), installOp(9, 6, 1)} {
					wantStepsResult(t, "a cache", impl.PlanOp(d, o), plainPlan(d, o))
				}
			}
		}
	}
	d := storeDisk(6, 5, 24, knownStore())
	d.Cache = slices.Repeat([]impl.Put{{At: 28, Words: plainRead(d, 28)}}, 177)
	wantStepsCode(t, "24 behind 177", impl.PlanOp(d, hardOp(7, 1)), impl.ErrMany)
	wantStepsCode(t, "24 behind 177, nothing changes", impl.PlanOp(d, hardOp(6, 2)), impl.OK)
	wantStepsCode(t, "24 behind 177, a Reply", impl.PlanOp(d, hardOp(5, 2)), impl.ErrState)
	d.Cache = d.Cache[1:]
	wantStepsCode(t, "24 behind 176", impl.PlanOp(d, hardOp(7, 1)), impl.OK)
}

func commitOf(at int64) []impl.Step {
	return []impl.Step{{Flush: true}, {At: at, Words: []int64{1}}, {Flush: true}}
}

func TestCommitAtByHand(t *testing.T) {
	put, flush, header := impl.Step{At: 2, Words: []int64{1}}, impl.Step{Flush: true}, impl.Step{At: 1, Words: []int64{1}}
	none := impl.IntResult{Code: impl.ErrNone}
	cases := []struct {
		name  string
		steps []impl.Step
		want  impl.IntResult
	}{
		{"none", nil, none},
		{"an empty list", []impl.Step{}, none},
		{"a flush", []impl.Step{flush}, none},
		{"a header", []impl.Step{header}, none},
		{"two flushes", []impl.Step{flush, flush}, none},
		{"a header and a flush", []impl.Step{header, flush}, none},
		{"a flush and a header", []impl.Step{flush, header}, none},
		{"just these three", []impl.Step{flush, header, flush}, impl.IntResult{Value: 2}},
		{"a put At 0", commitOf(0), impl.IntResult{Value: 2}},
		{"a put At 0 without words", []impl.Step{flush, {}, flush}, impl.IntResult{Value: 2}},
		{"a put At 1 without words", []impl.Step{flush, {At: 1}, flush}, impl.IntResult{Value: 2}},
		{"a put At 2", commitOf(2), none},
		{"a put At 65", commitOf(65), none},
		{"three flushes", []impl.Step{flush, flush, flush}, none},
		{"a put in place of the first flush", []impl.Step{put, header, flush}, none},
		{"a header in place of the first flush", []impl.Step{header, header, flush}, none},
		{"a put At 0 in place of the first flush", []impl.Step{{}, header, flush}, none},
		{"a put in place of the last flush", []impl.Step{flush, header, put}, none},
		{"a header in place of the last flush", []impl.Step{flush, header, header}, none},
		{"a put At 0 in place of the last flush", []impl.Step{flush, header, {}}, none},
		{"a put behind", []impl.Step{flush, header, flush, put}, none},
		{"a flush behind", []impl.Step{flush, header, flush, flush}, none},
		{"a header behind", []impl.Step{flush, header, flush, header}, none},
		{"a header and a flush behind", []impl.Step{flush, header, flush, header, flush}, impl.IntResult{Value: 4}},
		{"a put ahead", []impl.Step{put, flush, header, flush}, impl.IntResult{Value: 3}},
		{"twice", append(commitOf(0), commitOf(1)...), impl.IntResult{Value: 5}},
		{"120 steps", append(slices.Repeat([]impl.Step{put}, 117), commitOf(1)...), impl.IntResult{Value: 119}},
		{"121 steps", append(slices.Repeat([]impl.Step{put}, 118), commitOf(1)...), impl.IntResult{Code: impl.ErrMany}},
		{"120 steps that end otherwise", slices.Repeat([]impl.Step{put}, 120), none},
		{"121 ahead of a fault", slices.Repeat([]impl.Step{{At: 66}}, 121), impl.IntResult{Code: impl.ErrMany}},
		{"120 with a fault", slices.Repeat([]impl.Step{{At: 66}}, 120), impl.IntResult{Code: impl.ErrRange}},
	}
	for _, c := range cases {
		wantInt(t, c.name, impl.CommitAt(c.steps), c.want)
	}
}

// Each step is asked all, ahead of the next one, and all of them ahead of how they end.
func TestCommitAtAsksTheStepFault(t *testing.T) {
	for _, a := range stepCases() {
		wantInt(t, a.name, impl.CommitAt([]impl.Step{a.step}), impl.IntResult{Code: firstCode(a.code, impl.ErrNone)})
		for _, b := range stepCases() {
			code := firstCode(a.code, b.code)
			wantInt(t, "ahead", impl.CommitAt(slices.Concat([]impl.Step{a.step, b.step}, commitOf(0))), impl.IntResult{Code: code, Value: notSo(code == impl.OK, 4)})
			if code != impl.OK {
				wantInt(t, "at the end", impl.CommitAt(append(commitOf(0), a.step, b.step)), impl.IntResult{Code: code})
				wantInt(t, "alone", impl.CommitAt([]impl.Step{a.step, b.step}), impl.IntResult{Code: code})
			}
		}
	}
}

// All lists of up to five steps of a few kinds.
func TestCommitAtOfAllSmallLists(t *testing.T) {
	kinds := []impl.Step{{Flush: true}, {At: 0}, {At: 1, Words: []int64{4}}, {At: 2}}
	lists := [][]impl.Step{nil}
	for range 6 {
		var longer [][]impl.Step
		for _, list := range lists {
			want := impl.IntResult{Code: impl.ErrNone}
			if n := len(list); n >= 3 && list[n-3].Flush && !list[n-2].Flush && list[n-2].At != 2 && list[n-1].Flush {
				want = impl.IntResult{Value: int64(n) - 1}
			}
			wantInt(t, "a small list", impl.CommitAt(list), want)
			for _, x := range kinds {
				longer = append(longer, append(slices.Clone(list), x))
			}
		}
		lists = longer
	}
}

func TestNilAndEmptyAreTheSameToTransactions(t *testing.T) {
	bare, empty := impl.Raft{Snap: []int64{}, Log: []impl.Entry{}}, impl.Op{Kind: impl.OpRead, Data: []int64{}, List: []impl.Entry{}}
	wantOpResult(t, "DoOp", impl.DoOp(bare, empty), impl.OpResult{})
	wantOpResult(t, "RunOps", impl.RunOps(bare, []impl.Op{}), impl.OpResult{})
	wantIntsResult(t, "LocksFor", impl.LocksFor(empty), impl.IntsResult{List: []int64{2}})
	wantSteps(t, "PlanOp", impl.PlanOp(formatted(4), empty), nil)
	r, d := knownStore(), storeDisk(6, 3, 2, knownStore())
	a, b := compactOp(5), impl.Op{Kind: impl.OpCompact, Index: 5, Data: []int64{}, List: []impl.Entry{}}
	wantOpResult(t, "DoOp without words", impl.DoOp(r, a), impl.DoOp(r, b))
	wantSteps(t, "PlanOp without words", impl.PlanOp(d, a), impl.PlanOp(d, b).Steps)
	one := appendOp(7, 5, impl.Entry{Index: 8, Term: 5, Data: []int64{}})
	wantOpResult(t, "DoOp without data", impl.DoOp(r, one), impl.DoOp(r, appendOp(7, 5, entryOf(8, 5))))
	wantSteps(t, "PlanOp without data", impl.PlanOp(d, one), impl.PlanOp(d, appendOp(7, 5, entryOf(8, 5))).Steps)
}
