package tests

import (
	"math"
	"math/rand"
	"slices"
	"testing"

	"loop.example/g00311/impl"
)

// Promise 1: the functions of the world answer at every argument. Here: which code, and which of two comes first.

func plainDiskFault(d impl.Disk) int64 {
	codes := []int64{notSo(len(d.Blocks) > 70 || len(d.Cache) > 200, impl.ErrMany)}
	for _, words := range d.Blocks {
		codes = append(codes, plainWordsFault(words))
	}
	for _, p := range d.Cache {
		codes = append(codes, notSo(outside(p.At, 0, int64(len(d.Blocks))-1), impl.ErrRange), plainWordsFault(p.Words))
	}
	return firstCode(codes...)
}

// plainViewFault is the code of ViewOf.
func plainViewFault(d impl.Disk) int64 {
	if code := firstCode(plainDiskFault(d), notSo(len(d.Blocks) != 66, impl.ErrForm)); code != impl.OK {
		return code
	}
	return plainHeaderIn(d).Code
}

// plainTold takes a disk of which there is a view.
func plainTold(d impl.Disk) impl.RaftResult {
	homes := plainSeen(d)
	return homeLoad(homes.view())
}

func plainWorldFault(w impl.World) int64 {
	code := firstCode(storeFault(w.Raft), plainViewFault(w.Disk), notSo(len(w.Disk.Cache) > 0, impl.ErrForm))
	if code != impl.OK {
		return code
	}
	told := plainTold(w.Disk)
	return firstCode(told.Code, notSo(!plainSameRafts(told.Raft, w.Raft), impl.ErrState))
}

// plainStepsFor is what StepsOf counts: where there is a Reply there are none.
func plainStepsFor(w impl.World, o impl.Op) impl.StepsResult {
	if code := firstCode(plainWorldFault(w), plainOpFault(o)); code != impl.OK {
		return impl.StepsResult{Code: code}
	}
	if plainDo(w.Raft, o).Reply != impl.OK {
		return impl.StepsResult{}
	}
	return plainPlan(w.Disk, o)
}

func plainOpWorld(w impl.World, o impl.Op) impl.WorldResult {
	plan := plainStepsFor(w, o)
	if plan.Code != impl.OK {
		return impl.WorldResult{Code: plan.Code}
	}
	done := plainDo(w.Raft, o)
	return impl.WorldResult{Reply: done.Reply, Value: done.Value, World: impl.World{Disk: plainRun(w.Disk, plan.Steps), Raft: done.Raft}}
}

func plainStepsOf(w impl.World, o impl.Op) impl.IntResult {
	plan := plainStepsFor(w, o)
	return impl.IntResult{Code: plan.Code, Value: int64(len(plan.Steps))}
}

// plainCrash takes a disk without a fault, and picks that may have one.
func plainCrash(d impl.Disk, picks []int64) impl.DiskResult {
	beyond := slices.ContainsFunc(picks, func(pick int64) bool { return outside(pick, 0, 3) })
	if code := firstCode(notSo(len(picks) > 200, impl.ErrMany), notSo(beyond, impl.ErrRange)); code != impl.OK {
		return impl.DiskResult{Code: code}
	}
	blocks := slices.Clone(d.Blocks)
	for i, p := range d.Cache {
		pick := append(slices.Clone(picks), same(0, len(d.Cache))...)[i]
		blocks[p.At] = tornByWord(blocks[p.At], p.Words, pick)
	}
	return impl.DiskResult{Disk: impl.Disk{Blocks: blocks}}
}

func plainCrashWorld(w impl.World, o impl.Op, steps int64, picks []int64) impl.DiskResult {
	plan := plainStepsFor(w, o)
	if code := firstCode(plan.Code, notSo(outside(steps, 0, int64(len(plan.Steps))), impl.ErrRange)); code != impl.OK {
		return impl.DiskResult{Code: code}
	}
	return plainCrash(plainRun(w.Disk, plan.Steps[:steps]), picks)
}

func plainOpenDisk(d impl.Disk) impl.WorldResult {
	if code := plainViewFault(d); code != impl.OK {
		return impl.WorldResult{Code: code}
	}
	flushed := plainRun(d, []impl.Step{{Flush: true}})
	told := plainTold(flushed)
	if told.Code != impl.OK {
		return impl.WorldResult{Code: told.Code}
	}
	return impl.WorldResult{World: impl.World{Disk: flushed, Raft: told.Raft}}
}

func plainTidy(w impl.World) impl.WorldResult {
	if code := plainWorldFault(w); code != impl.OK {
		return impl.WorldResult{Code: code}
	}
	h := plainHeaderIn(w.Disk).Header
	if h.Seq == 65000 {
		return impl.WorldResult{Code: impl.ErrState}
	}
	if len(h.Addrs) == 0 {
		return impl.WorldResult{World: w}
	}
	return impl.WorldResult{World: impl.World{Disk: plainRun(w.Disk, plainInstall(w.Disk)), Raft: w.Raft}}
}

func sameWorlds(a impl.World, b impl.World) bool {
	return sameDisks(a.Disk, b.Disk) && plainSameRafts(a.Raft, b.Raft)
}

func wantWorldResult(t *testing.T, name string, r impl.WorldResult, want impl.WorldResult) {
	t.Helper()
	if r.Code != want.Code || r.Reply != want.Reply || r.Value != want.Value || !sameWorlds(r.World, want.World) {
		t.Fatalf("%s: %v, want %v", name, r, want)
	}
}

func wantWorldCode(t *testing.T, name string, r impl.WorldResult, code int64) {
	t.Helper()
	wantCode(t, name, r.Code, r.Reply == 0 && r.Value == 0 && sameWorlds(r.World, impl.World{}), code)
}

func wantDiskResult(t *testing.T, name string, r impl.DiskResult, want impl.DiskResult) {
	t.Helper()
	if r.Code != want.Code || !sameDisks(r.Disk, want.Disk) {
		t.Fatalf("%s: %v, want %v", name, r, want)
	}
}

// wantWorldAsked holds each function against the plain one.
func wantWorldAsked(t *testing.T, name string, w impl.World, o impl.Op, steps int64, picks []int64) {
	t.Helper()
	if code, want := impl.WorldFault(w), plainWorldFault(w); code != want {
		t.Fatalf("%s: WorldFault %d, want %d", name, code, want)
	}
	wantWorldResult(t, name+": OpWorld", impl.OpWorld(w, o), plainOpWorld(w, o))
	wantInt(t, name+": StepsOf", impl.StepsOf(w, o), plainStepsOf(w, o))
	wantDiskResult(t, name+": CrashWorld", impl.CrashWorld(w, o, steps, picks), plainCrashWorld(w, o, steps, picks))
	wantWorldResult(t, name+": TidyWorld", impl.TidyWorld(w), plainTidy(w))
	wantWorldResult(t, name+": OpenDisk", impl.OpenDisk(w.Disk), plainOpenDisk(w.Disk))
}

// wantWorldFault asks that a world has this code, and that each function that takes one tells it, whatever else is wrong.
func wantWorldFault(t *testing.T, name string, w impl.World, want int64) {
	t.Helper()
	if code := impl.WorldFault(w); code != want {
		t.Errorf("%s: WorldFault %d, want %d", name, code, want)
	}
	if code := plainWorldFault(w); code != want {
		t.Errorf("%s: the plain one says %d, want %d", name, code, want)
	}
	if want == impl.OK {
		return
	}
	wantWorldCode(t, name, impl.TidyWorld(w), want)
	for _, o := range []impl.Op{hardOp(900, 1), hardOp(-1, 1), readOp(0), readOp(9999), {}, compactOp(1, -1), appendOp(0, 0, hollowLog(1, 5)...)} {
		wantWorldCode(t, name, impl.OpWorld(w, o), want)
		wantInt(t, name, impl.StepsOf(w, o), impl.IntResult{Code: want})
		for _, steps := range []int64{math.MinInt64, -1, 0, 1, math.MaxInt64} {
			wantDiskCode(t, name, impl.CrashWorld(w, o, steps, nil), want)
		}
		wantDiskCode(t, name, impl.CrashWorld(w, o, 0, same(0, 201)), want)
		wantDiskCode(t, name, impl.CrashWorld(w, o, -1, []int64{4}), want)
	}
}

func knownWorld(seq int64, n int) impl.World {
	return impl.World{Disk: storeDisk(seq, 20, n, knownStore()), Raft: knownStore()}
}

func TestNewWorldOfEachSeq(t *testing.T) {
	for _, c := range numberCases(1, 65000) {
		r := impl.NewWorld(c.number)
		wantWorldCode(t, c.name, r, c.code)
		wantDiskCode(t, c.name, impl.FormatDisk(c.number), c.code)
		if c.code == impl.OK {
			d := emptyDisk(66)
			d.Blocks[c.number%2] = plainPack(impl.Header{Seq: c.number})
			wantWorldResult(t, c.name, r, impl.WorldResult{World: impl.World{Disk: d}})
			wantWorldFault(t, c.name, r.World, impl.OK)
		}
	}
	wantWorldCode(t, "0", impl.NewWorld(0), impl.ErrRange)
	wantWorldCode(t, "65001", impl.NewWorld(65001), impl.ErrRange)
	wantWorldCode(t, "65536", impl.NewWorld(65536), impl.ErrRange)
	wantWorldCode(t, "65537", impl.NewWorld(65537), impl.ErrRange)
}

// The fault of the store comes ahead of all else.
func TestWorldFaultAsksTheStoreFirst(t *testing.T) {
	cached, text := knownWorld(6, 3).Disk, knownWorld(6, 3).Disk
	cached.Cache = putsAt(28, 1)
	text.Blocks[26+23] = []int64{1}
	disks := []impl.Disk{{}, emptyDisk(65), emptyDisk(66), emptyDisk(71), formatted(4), knownWorld(6, 0).Disk, cached, text}
	for _, c := range raftCases() {
		for _, d := range disks {
			w := impl.World{Disk: d, Raft: c.r}
			if c.code != impl.OK {
				wantWorldFault(t, c.name, w, c.code)
			}
			wantWorldAsked(t, c.name, w, hardOp(7, 1), 1, nil)
		}
		if c.code == impl.OK {
			wantWorldFault(t, c.name, impl.World{Disk: storeDisk(6, 20, 5, c.r), Raft: c.r}, impl.OK)
		}
	}
}

// Then comes the code of the view, ahead of a Cache and of what the disk tells.
func TestWorldFaultAsksTheViewNext(t *testing.T) {
	for _, c := range headerInCases() {
		for _, r := range []impl.Raft{{}, knownStore()} {
			wantWorldFault(t, c.name, impl.World{Disk: c.disk, Raft: r}, c.code)
		}
		wantWorldCode(t, c.name, impl.OpenDisk(c.disk), c.code)
	}
	for size, code := range map[int]int64{0: impl.ErrForm, 1: impl.ErrForm, 65: impl.ErrForm, 66: impl.OK, 67: impl.ErrForm, 70: impl.ErrForm, 71: impl.ErrMany} {
		d := emptyDisk(size)
		copy(d.Blocks, knownWorld(6, 3).Disk.Blocks)
		w := impl.World{Disk: d, Raft: knownStore()}
		wantWorldFault(t, "a size", w, code)
		wantWorldCode(t, "a size", impl.OpenDisk(d), code)
		if size == 0 {
			continue
		}
		w.Disk.Cache = putsAt(0, 1)
		wantWorldFault(t, "a size ahead of a Cache", w, firstCode(code, impl.ErrNone))
		w.Disk.Cache, d.Blocks[size-1] = nil, []int64{65536}
		wantWorldFault(t, "a word ahead of a size", w, firstCode(notSo(code == impl.ErrMany, code), impl.ErrRange))
	}
}

// cachedWorld is a world whose disk tells the store, by n puts of its Cache as well.
func cachedWorld(n int) impl.World {
	w := knownWorld(6, 3)
	for i := range n {
		at := int64(65 - i%66)
		w.Disk.Cache = append(w.Disk.Cache, impl.Put{At: at, Words: w.Disk.Blocks[at]})
	}
	return w
}

// A Cache comes ahead of what the disk tells, and is asked of a disk with a view alone.
func TestWorldFaultAsksTheCache(t *testing.T) {
	for _, n := range []int{0, 1, 2, 66, 199, 200, 201} {
		w := cachedWorld(n)
		code := notSo(n > 0, impl.ErrForm)
		if n > 200 {
			code = impl.ErrMany
		}
		wantWorldFault(t, "a Cache", w, code)
		wantWorldAsked(t, "a Cache", w, hardOp(7, 1), 1, nil)
		other := cachedWorld(n)
		other.Raft.Vote = 3
		wantWorldFault(t, "a Cache ahead of another store", other, firstCode(code, impl.ErrState))
		text := cachedWorld(n)
		text.Disk.Blocks[26+23] = []int64{1}
		wantWorldFault(t, "a Cache ahead of no store", text, firstCode(code, impl.ErrText))
	}
	w := knownWorld(6, 0)
	w.Disk.Cache = []impl.Put{{At: 0, Words: w.Disk.Blocks[0]}}
	w.Disk.Blocks[0] = nil
	wantWorldFault(t, "a header in the Cache alone", w, impl.ErrForm)
	w.Disk.Cache[0].At = 1
	wantWorldFault(t, "no header", w, impl.ErrNone)
	empty := knownWorld(6, 0)
	empty.Disk.Cache = []impl.Put{}
	wantWorldFault(t, "an empty Cache", empty, impl.OK)
	hollow := knownWorld(6, 0)
	hollow.Disk.Cache = []impl.Put{{At: 25}}
	wantWorldFault(t, "a put without words where there are none", hollow, impl.ErrForm)
}

// otherStores differ from the known one by one thing alone, and have no fault.
func otherStores() []raftCase {
	list := []raftCase{{name: "the zero value"}}
	add := func(name string, change func(r *impl.Raft)) {
		list = append(list, raftCase{name: name, r: knownWith(change)})
	}
	add("Term above", func(r *impl.Raft) { r.Term = 7 })
	add("Term below", func(r *impl.Raft) { r.Term = 5 })
	add("Vote", func(r *impl.Raft) { r.Vote = 3 })
	add("no Vote", func(r *impl.Raft) { r.Vote = 0 })
	add("SnapTerm", func(r *impl.Raft) { r.SnapTerm = 1 })
	add("a word of Snap", func(r *impl.Raft) { r.Snap[1] = 9 })
	add("one word more in Snap", func(r *impl.Raft) { r.Snap = append(r.Snap, 0) })
	add("one word less in Snap", func(r *impl.Raft) { r.Snap = r.Snap[:1] })
	add("no words in Snap", func(r *impl.Raft) { r.Snap = nil })
	add("no Log", func(r *impl.Raft) { r.Log = nil })
	add("one entry less", func(r *impl.Raft) { r.Log = r.Log[:3] })
	add("one entry more", func(r *impl.Raft) { r.Log = append(r.Log, entryOf(8, 5)) })
	add("the Term of the first entry", func(r *impl.Raft) { r.Log[0].Term = 3 })
	add("the Term of the last entry", func(r *impl.Raft) { r.Log[3].Term = 6 })
	add("a word of Data", func(r *impl.Raft) { r.Log[2].Data[1] = 62 })
	add("one word more in Data", func(r *impl.Raft) { r.Log[1].Data = []int64{0} })
	add("one word less in Data", func(r *impl.Raft) { r.Log[2].Data = r.Log[2].Data[:1] })
	add("no words in Data", func(r *impl.Raft) { r.Log[3].Data = nil })
	add("all indexes", func(r *impl.Raft) {
		r.SnapIndex += 14
		for i := range r.Log {
			r.Log[i].Index += 14
		}
	})
	return list
}

func TestAStoreThatIsNotWhatTheDiskTells(t *testing.T) {
	for _, n := range []int{0, 3, 24} {
		wantWorldFault(t, "the same", knownWorld(6, n), impl.OK)
		for _, c := range otherStores() {
			w := impl.World{Disk: knownWorld(6, n).Disk, Raft: c.r}
			wantWorldFault(t, c.name, w, impl.ErrState)
			back := impl.World{Disk: storeDisk(6, 20, n, c.r), Raft: knownStore()}
			wantWorldFault(t, c.name+", the other way", back, impl.ErrState)
			wantWorldFault(t, c.name+", told", impl.World{Disk: back.Disk, Raft: c.r}, impl.OK)
			text := knownWorld(6, n).Disk
			text.Blocks[26+39] = []int64{1}
			wantWorldFault(t, c.name+", behind no store", impl.World{Disk: text, Raft: c.r}, impl.ErrText)
		}
	}
	snapped := impl.Raft{Term: 6, SnapIndex: 3, SnapTerm: 2, Snap: []int64{7, 8}}
	other := snapped
	other.SnapIndex = 4
	wantWorldFault(t, "SnapIndex alone", impl.World{Disk: storeDisk(6, 20, 2, snapped), Raft: other}, impl.ErrState)
	wantWorldFault(t, "SnapIndex alone, the other way", impl.World{Disk: storeDisk(6, 20, 2, other), Raft: snapped}, impl.ErrState)
	wantWorldFault(t, "a formatted disk", impl.World{Disk: formatted(6), Raft: impl.Raft{Vote: 1}}, impl.ErrState)
	wantWorldFault(t, "the zero value in a block", impl.World{Disk: storeDisk(6, 20, 1, impl.Raft{})}, impl.OK)
	bare := impl.Raft{Snap: []int64{}, Log: []impl.Entry{}}
	wantWorldFault(t, "empty lists", impl.World{Disk: formatted(6), Raft: bare}, impl.OK)
}

// A view that is no store: each block at a time is gone or holds other words.
func TestWorldOfAViewThatIsNoStore(t *testing.T) {
	codes := map[int64]int{}
	for _, r := range []impl.Raft{{}, knownStore(), sizedStore(11, 40, 14)} {
		for at := range 40 {
			for _, words := range [][]int64{nil, {0}, {1, 2, 0}, same(9, 64)} {
				w := impl.World{Disk: storeDisk(6, 3, 0, r), Raft: r}
				w.Disk.Blocks[26+at] = words
				wantWorldAsked(t, "another block", w, hardOp(10, 1), 1, nil)
				code := plainTold(w.Disk).Code
				codes[code]++
				wantWorldFault(t, "another block", w, firstCode(code, plainWorldFault(w)))
				if code != impl.OK {
					wantWorldCode(t, "another block", impl.OpenDisk(w.Disk), code)
				}
			}
		}
	}
	if codes[impl.OK] < 100 || codes[impl.ErrText] < 100 {
		t.Error(codes)
	}
}

// The fault of the operation comes ahead of its Reply, of what is planned, of steps and of picks.
func TestTheWorldAsksTheOperation(t *testing.T) {
	worlds := []impl.World{impl.NewWorld(4).World, knownWorld(6, 24), knownWorld(65000, 24), impl.NewWorld(65000).World}
	for _, c := range opCases() {
		for _, w := range worlds {
			wantWorldAsked(t, c.name, w, c.op, 1, []int64{2})
			if c.code == impl.OK {
				continue
			}
			wantWorldCode(t, c.name, impl.OpWorld(w, c.op), c.code)
			wantInt(t, c.name, impl.StepsOf(w, c.op), impl.IntResult{Code: c.code})
			for _, steps := range []int64{math.MinInt64, -1, 0, 1, math.MaxInt64} {
				wantDiskCode(t, c.name, impl.CrashWorld(w, c.op, steps, same(4, 201)), c.code)
			}
		}
	}
}

// At the last Seq nothing can be planned, but what has a Reply or changes nothing is told all the same.
func TestTheWorldAtTheLastSeq(t *testing.T) {
	big := installOp(9, 6, run(1, 40)...)
	cases := []struct {
		name  string
		seq   int64
		n     int
		op    impl.Op
		code  int64
		steps int64
		tidy  int64
	}{
		{"room, one ahead of the last", 64999, 0, hardOp(7, 1), impl.OK, 4, impl.OK},
		{"room, the last", 65000, 0, hardOp(7, 1), impl.ErrState, 0, impl.ErrState},
		{"just room, one ahead of the last", 64999, 23, hardOp(7, 1), impl.OK, 4, impl.OK},
		{"no room, two ahead of the last", 64998, 24, hardOp(7, 1), impl.OK, 31, impl.OK},
		{"no room, one ahead of the last", 64999, 24, hardOp(7, 1), impl.ErrState, 0, impl.OK},
		{"no room, the last", 65000, 24, hardOp(7, 1), impl.ErrState, 0, impl.ErrState},
		{"no room for eight, one ahead of the last", 64999, 17, big, impl.ErrState, 0, impl.OK},
		{"no room for eight, two ahead of the last", 64998, 17, big, impl.OK, 31, impl.OK},
		{"the last, but nothing changes", 65000, 24, hardOp(6, 2), impl.OK, 0, impl.ErrState},
		{"the last, but it is read", 65000, 24, readOp(3), impl.OK, 0, impl.ErrState},
		{"the last, and a Reply", 65000, 24, hardOp(5, 2), impl.OK, 0, impl.ErrState},
		{"the last, and a Reply of a read", 65000, 0, readOp(2), impl.OK, 0, impl.ErrState},
	}
	for _, c := range cases {
		w := knownWorld(c.seq, c.n)
		wantWorldCode(t, c.name, impl.OpWorld(w, c.op), c.code)
		wantInt(t, c.name, impl.StepsOf(w, c.op), impl.IntResult{Code: c.code, Value: c.steps})
		for _, steps := range []int64{-1, 0, c.steps, c.steps + 1} {
			code := firstCode(c.code, notSo(steps < 0 || steps > c.steps, impl.ErrRange))
			wantDiskCode(t, c.name, impl.CrashWorld(w, c.op, steps, nil), code)
			wantWorldAsked(t, c.name, w, c.op, steps, nil)
		}
		wantWorldCode(t, c.name+", tidy", impl.TidyWorld(w), c.tidy)
	}
	wantWorldCode(t, "the last without a log", impl.TidyWorld(impl.NewWorld(65000).World), impl.ErrState)
	wantWorldCode(t, "one ahead of the last without a log", impl.TidyWorld(impl.NewWorld(64999).World), impl.OK)
}

// opsOfEachSort are of each kind, some with steps, some that change nothing and some with a Reply, for the known store.
func opsOfEachSort() []impl.Op {
	return []impl.Op{
		hardOp(7, 1), hardOp(6, 2), hardOp(5, 2), hardOp(1000, 0),
		appendOp(7, 5, entryOf(8, 6, 1)), appendOp(7, 5, raisedLog(8, 4, 6)...), appendOp(5, 3, entryOf(6, 5, 9)), appendOp(7, 5), appendOp(4, 2, entryOf(5, 3, 9)), appendOp(7, 6), appendOp(9, 6),
		compactOp(5, run(1, 40)...), compactOp(7), compactOp(3, 1), compactOp(8, 1),
		installOp(9, 6, run(1, 40)...), installOp(6, 3), installOp(9, 7), installOp(9, 1), installOp(3, 6),
		readOp(3), readOp(7), readOp(2), readOp(8),
	}
}

func TestStepsOfACrash(t *testing.T) {
	for _, n := range []int{0, 3, 20, 24} {
		w := knownWorld(6, n)
		for _, o := range opsOfEachSort() {
			all := int64(len(plainStepsFor(w, o).Steps))
			wantInt(t, "StepsOf", impl.StepsOf(w, o), impl.IntResult{Value: all})
			for steps := int64(-1); steps <= all+1; steps++ {
				code := notSo(steps < 0 || steps > all, impl.ErrRange)
				wantDiskCode(t, "steps", impl.CrashWorld(w, o, steps, nil), code)
				wantDiskCode(t, "steps ahead of many picks", impl.CrashWorld(w, o, steps, same(0, 201)), firstCode(code, impl.ErrMany))
				wantDiskCode(t, "steps ahead of a pick", impl.CrashWorld(w, o, steps, []int64{4}), impl.ErrRange)
				wantDiskResult(t, "steps", impl.CrashWorld(w, o, steps, nil), plainCrashWorld(w, o, steps, nil))
			}
			for _, steps := range []int64{math.MinInt64, math.MinInt32, all + 66, 1 << 32, 1<<32 + 1, math.MaxInt64} {
				wantDiskCode(t, "steps beyond their bounds", impl.CrashWorld(w, o, steps, nil), impl.ErrRange)
				wantDiskCode(t, "steps ahead of many picks", impl.CrashWorld(w, o, steps, same(4, 201)), impl.ErrRange)
			}
		}
	}
}

func TestPicksOfACrash(t *testing.T) {
	w, o := knownWorld(6, 3), installOp(9, 6, run(1, 40)...) // eight puts, a flush, a header, a flush
	for steps := range int64(12) {
		cached := len(plainRun(w.Disk, plainStepsFor(w, o).Steps[:steps]).Cache)
		for _, n := range []int{0, 1, cached - 1, cached, cached + 1, 60, 199, 200} {
			for pick := range int64(4) {
				picks := same(pick, max(n, 0))
				wantDiskCode(t, "picks", impl.CrashWorld(w, o, steps, picks), impl.OK)
				wantDiskResult(t, "picks", impl.CrashWorld(w, o, steps, picks), plainCrashWorld(w, o, steps, picks))
			}
		}
		for _, c := range numberCases(0, 3) {
			wantDiskCode(t, "a pick is "+c.name, impl.CrashWorld(w, o, steps, []int64{c.number}), c.code)
			wantDiskCode(t, "a pick behind the Cache is "+c.name, impl.CrashWorld(w, o, steps, append(same(1, cached), c.number)), c.code)
			wantDiskCode(t, "the last of 200 is "+c.name, impl.CrashWorld(w, o, steps, append(same(1, 199), c.number)), c.code)
			wantDiskCode(t, "many ahead of a pick that is "+c.name, impl.CrashWorld(w, o, steps, append(same(1, 200), c.number)), impl.ErrMany)
		}
	}
	for _, o := range []impl.Op{readOp(3), readOp(2), hardOp(6, 2), hardOp(5, 1)} {
		wantDiskResult(t, "no steps", impl.CrashWorld(w, o, 0, []int64{1, 2, 3}), impl.DiskResult{Disk: w.Disk})
		wantDiskCode(t, "no steps, a pick", impl.CrashWorld(w, o, 0, []int64{4}), impl.ErrRange)
		wantDiskCode(t, "no steps, many picks", impl.CrashWorld(w, o, 0, same(1, 201)), impl.ErrMany)
		wantDiskCode(t, "no steps, one step", impl.CrashWorld(w, o, 1, nil), impl.ErrRange)
	}
}

// OpenDisk asks the disk, and then what it tells; it flushes first, whatever the Cache holds.
func TestOpenDiskCodes(t *testing.T) {
	for _, c := range diskCases() {
		wantWorldCode(t, c.name, impl.OpenDisk(c.disk), firstCode(c.code, impl.ErrForm))
	}
	for _, size := range []int{0, 1, 65, 67, 70} {
		d := emptyDisk(size)
		wantWorldCode(t, "a size", impl.OpenDisk(d), impl.ErrForm)
		if size > 0 {
			d.Cache = []impl.Put{{At: 0, Words: []int64{-1}}}
			wantWorldCode(t, "a word ahead of a size", impl.OpenDisk(d), impl.ErrRange)
		}
	}
	wantWorldCode(t, "no header", impl.OpenDisk(emptyDisk(66)), impl.ErrNone)
	text := knownWorld(6, 3).Disk
	text.Blocks[26+2] = []int64{1}
	wantWorldCode(t, "the log over what is no store", impl.OpenDisk(text), impl.OK)
	text.Blocks[26+31] = []int64{1}
	wantWorldCode(t, "no store", impl.OpenDisk(text), impl.ErrText)
	text.Blocks[0] = nil
	wantWorldCode(t, "no header ahead of no store", impl.OpenDisk(text), impl.ErrNone)
	text.Blocks = text.Blocks[:65]
	wantWorldCode(t, "a size ahead of no header", impl.OpenDisk(text), impl.ErrForm)
}

func TestOpenDiskFlushesTheCache(t *testing.T) {
	for _, n := range []int{0, 1, 2, 66, 199, 200, 201} {
		w := cachedWorld(n)
		if n > 200 {
			wantWorldCode(t, "201 in the Cache", impl.OpenDisk(w.Disk), impl.ErrMany)
			continue
		}
		wantWorldResult(t, "a Cache", impl.OpenDisk(w.Disk), impl.WorldResult{World: knownWorld(6, 3)})
	}
	// What the disk tells is all in the Cache, what it told is no store any more, and the other way round.
	now := knownWorld(7, 9)
	for _, was := range []impl.Disk{formatted(4), storeDisk(6, 3, 20, sizedStore(11, 40, 14)), emptyDisk(66)} {
		d := was
		for at, words := range now.Disk.Blocks {
			d.Cache = append(d.Cache, impl.Put{At: int64(at), Words: words})
		}
		wantWorldResult(t, "all in the Cache", impl.OpenDisk(d), impl.WorldResult{World: now})
		d.Cache = append(d.Cache, impl.Put{At: 26 + 23, Words: []int64{1}})
		wantWorldCode(t, "no store in the Cache", impl.OpenDisk(d), impl.ErrText)
		d.Cache = append(d.Cache, impl.Put{At: 26 + 23})
		wantWorldResult(t, "all in the Cache, and something that is gone", impl.OpenDisk(d), impl.WorldResult{World: now})
		d.Cache = append(d.Cache, impl.Put{At: 0}, impl.Put{At: 1, Words: same(0, 64)})
		wantWorldCode(t, "no header in the Cache", impl.OpenDisk(d), impl.ErrNone)
	}
}

// Worlds of which some things are spoilt, so that there are several faults at once.
func TestWorldsWithSeveralFaults(t *testing.T) {
	rnd := rand.New(rand.NewSource(131))
	codes := map[int64]int{}
	for range 2500 {
		r := randomStore(rnd)
		w := impl.World{Disk: storeDisk(2+rnd.Int63n(3), rnd.Int63n(24), rnd.Intn(25), r), Raft: r}
		o := randomOp(rnd, r)
		for range rnd.Intn(3) {
			spoilWorld(rnd, &w)
		}
		if rnd.Intn(3) == 0 {
			spoilOp(rnd, &o)
		}
		picks := randomPicks(rnd, rnd.Intn(4))
		if rnd.Intn(4) == 0 {
			picks = append(picks, 4)
		}
		wantWorldAsked(t, "several faults", w, o, rnd.Int63n(7)-1, picks)
		codes[impl.WorldFault(w)]++
	}
	for _, code := range []int64{impl.OK, impl.ErrForm, impl.ErrMany, impl.ErrRange, impl.ErrNone, impl.ErrText, impl.ErrState} {
		if codes[code] < 20 {
			t.Errorf("code %d came just %d times", code, codes[code])
		}
	}
}

// spoilWorld changes one thing of a world, which may come to a fault or to none.
func spoilWorld(rnd *rand.Rand, w *impl.World) {
	at := rnd.Int63n(66)
	if rnd.Intn(3) == 0 {
		at = rnd.Int63n(2)
	}
	put := impl.Put{At: at, Words: run(rnd.Int63n(9), rnd.Intn(66))}
	switch rnd.Intn(6) {
	case 0:
		spoilStore(rnd, &w.Raft)
	case 1:
		w.Raft.Vote = rnd.Int63n(11)
	case 2:
		w.Disk.Cache = append(w.Disk.Cache, put)
	case 3:
		w.Disk.Cache = append(w.Disk.Cache, impl.Put{At: 65 + rnd.Int63n(3)})
	case 4:
		if at < int64(len(w.Disk.Blocks)) {
			w.Disk.Blocks[at] = put.Words
		}
	case 5:
		w.Disk.Blocks = append(w.Disk.Blocks, nil)[:65+rnd.Intn(3)]
	}
}

func TestNilAndEmptyAreTheSameToTheWorld(t *testing.T) {
	w := knownWorld(6, 3)
	w.Disk.Cache = []impl.Put{}
	for at, words := range w.Disk.Blocks {
		if len(words) == 0 {
			w.Disk.Blocks[at] = []int64{}
		}
	}
	w.Raft.Log[1].Data = []int64{}
	plain := knownWorld(6, 3)
	for _, o := range []impl.Op{hardOp(7, 1), {Kind: impl.OpRead, Index: 3, Data: []int64{}, List: []impl.Entry{}}, {Kind: impl.OpCompact, Index: 5, Data: []int64{}, List: []impl.Entry{}}} {
		wantWorldResult(t, "OpWorld", impl.OpWorld(w, o), impl.OpWorld(plain, o))
		wantInt(t, "StepsOf", impl.StepsOf(w, o), impl.StepsOf(plain, o))
		wantDiskResult(t, "CrashWorld", impl.CrashWorld(w, o, 0, []int64{}), impl.CrashWorld(plain, o, 0, nil))
	}
	wantWorldResult(t, "TidyWorld", impl.TidyWorld(w), impl.TidyWorld(plain))
	wantWorldResult(t, "OpenDisk", impl.OpenDisk(w.Disk), impl.WorldResult{World: plain})
}
