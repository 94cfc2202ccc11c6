package tests

import (
	"math"
	"math/rand"
	"slices"
	"testing"

	"loop.example/g00311/impl"
)

// The circular log: which steps write a batch or install the log, and what the log is then.

func TestFormatDiskHasTheHeaderAlone(t *testing.T) {
	for _, seq := range []int64{1, 2, 3, 4, 255, 256, 32767, 32768, 64999, 65000} {
		d := mustDisk(t, impl.FormatDisk(seq))
		want := emptyDisk(66)
		want.Blocks[seq%2] = plainPack(impl.Header{Seq: seq})
		if !sameDisks(d, want) {
			t.Errorf("seq %d: %v", seq, d)
		}
		if code := impl.DiskFault(d); code != impl.OK {
			t.Errorf("seq %d: DiskFault %d", seq, code)
		}
		wantHeader(t, "formatted", impl.HeaderIn(d), impl.Header{Seq: seq})
		wantPuts(t, "formatted", impl.LogOf(d), nil)
		for pick := range int64(4) {
			crashed := mustDisk(t, impl.CrashDisk(d, same(pick, 200)))
			wantHeader(t, "formatted and crashed", impl.HeaderIn(crashed), impl.Header{Seq: seq})
		}
	}
}

func TestFormatDiskRange(t *testing.T) {
	for _, seq := range []int64{math.MinInt64, -1, 0, 65001, 65535, 65536, 65537, 1<<32 + 1, math.MaxInt64} {
		wantDiskCode(t, "FormatDisk", impl.FormatDisk(seq), impl.ErrRange)
	}
	wantDiskCode(t, "FormatDisk", impl.FormatDisk(1), impl.OK)
	wantDiskCode(t, "FormatDisk", impl.FormatDisk(65000), impl.OK)
}

// The next header goes to the other block, whatever of it is there.
func TestNextHeaderBesideTheFormatted(t *testing.T) {
	for _, seq := range []int64{1, 2, 64998, 64999} {
		next := impl.Header{Seq: seq + 1, Start: 2, Addrs: []int64{6}}
		d := mustDisk(t, impl.PutBlock(mustDisk(t, impl.FormatDisk(seq)), next.Seq%2, mustPack(t, next)))
		for pick := range int64(4) {
			want := impl.Header{Seq: seq}
			if pick == impl.KeepAll {
				want = next
			}
			wantHeader(t, "crashed", impl.HeaderIn(mustDisk(t, impl.CrashDisk(d, []int64{pick}))), want)
		}
	}
}

// addrsOf gives n addresses of which some come twice and none stands at its own place.
func addrsOf(n int) []int64 {
	var list []int64
	for i := range n {
		list = append(list, int64(i*17+39)%40)
	}
	return list
}

// batchOf gives n puts; their words tell them apart.
func batchOf(n int) []impl.Put {
	var list []impl.Put
	for i := range n {
		list = append(list, impl.Put{At: int64(i*23) % 40, Words: run(int64(2000+100*i), i*5%65)})
	}
	return list
}

// logDisk is a disk whose header is of seq, begins at start and has n addresses. Each block but the other header's has words of its own, so that one that is read or written at a wrong place comes to light.
func logDisk(seq int64, start int64, n int) impl.Disk {
	d := emptyDisk(66)
	for at := 2; at < 66; at++ {
		d.Blocks[at] = run(int64(100*at), 1+at%64)
	}
	d.Blocks[seq%2] = plainPack(impl.Header{Seq: seq, Start: start, Addrs: addrsOf(n)})
	return d
}

// plainSlot goes slot by slot, so that it is right without a remainder.
func plainSlot(start int64, i int) int64 {
	for range i {
		start++
		if start == 24 {
			start = 0
		}
	}
	return start
}

func plainRead(d impl.Disk, at int64) []int64 {
	words := d.Blocks[at]
	for _, p := range d.Cache {
		if p.At == at {
			words = p.Words
		}
	}
	return words
}

// plainLog takes a disk that has a header.
func plainLog(d impl.Disk) []impl.Put {
	var list []impl.Put
	h := plainHeaderIn(d).Header
	for i, addr := range h.Addrs {
		list = append(list, impl.Put{At: addr, Words: plainRead(d, 2+plainSlot(h.Start, i))})
	}
	return list
}

// plainSteps is puts, a flush, a header and a flush.
func plainSteps(puts []impl.Put, h impl.Header) []impl.Step {
	var list []impl.Step
	for _, p := range puts {
		list = append(list, impl.Step{At: p.At, Words: p.Words})
	}
	return append(list, impl.Step{Flush: true}, impl.Step{At: h.Seq % 2, Words: plainPack(h)}, impl.Step{Flush: true})
}

// plainAppend takes a batch that has room and no fault, and is not empty.
func plainAppend(d impl.Disk, puts []impl.Put) []impl.Step {
	h := plainHeaderIn(d).Header
	next := impl.Header{Seq: h.Seq + 1, Start: h.Start, Addrs: slices.Clone(h.Addrs)}
	var list []impl.Put
	for _, p := range puts {
		list = append(list, impl.Put{At: 2 + plainSlot(h.Start, len(next.Addrs)), Words: p.Words})
		next.Addrs = append(next.Addrs, p.At)
	}
	return plainSteps(list, next)
}

// plainInstall takes a disk whose log is not empty.
func plainInstall(d impl.Disk) []impl.Step {
	h := plainHeaderIn(d).Header
	var list []impl.Put
	for _, p := range plainLog(d) {
		list = append(list, impl.Put{At: 26 + p.At, Words: p.Words})
	}
	return plainSteps(list, impl.Header{Seq: h.Seq + 1, Start: plainSlot(h.Start, len(h.Addrs))})
}

func plainRun(d impl.Disk, list []impl.Step) impl.Disk {
	now := impl.Disk{Blocks: slices.Clone(d.Blocks), Cache: slices.Clone(d.Cache)}
	for _, x := range list {
		if !x.Flush {
			now.Cache = append(now.Cache, impl.Put{At: x.At, Words: x.Words})
			continue
		}
		for _, p := range now.Cache {
			now.Blocks[p.At] = p.Words
		}
		now.Cache = nil
	}
	return now
}

func TestSlotsGoRound(t *testing.T) {
	for start := range int64(24) {
		for i := range 24 {
			h := impl.Header{Seq: 1 + start, Start: start, Addrs: addrsOf(i)}
			wantInt(t, "SlotOf", impl.SlotOf(h, int64(i)), impl.IntResult{Value: plainSlot(start, i)})
		}
	}
	h := impl.Header{Seq: 7, Start: 23}
	wantInt(t, "the last slot", impl.SlotOf(h, 0), impl.IntResult{Value: 23})
	wantInt(t, "behind the last slot", impl.SlotOf(h, 1), impl.IntResult{Value: 0})
	wantInt(t, "all the way round", impl.SlotOf(h, 23), impl.IntResult{Value: 22})
}

func TestLogIsReadFromItsSlots(t *testing.T) {
	for start := range int64(24) {
		for _, n := range []int{0, 1, 2, 12, 23, 24} {
			d := logDisk(9, start, n)
			wantPuts(t, "LogOf", impl.LogOf(d), plainLog(d))
		}
	}
	d := emptyDisk(66)
	d.Blocks[1] = plainPack(impl.Header{Seq: 3, Start: 23, Addrs: []int64{8, 8, 0}})
	d.Blocks[25], d.Blocks[3] = []int64{5, 6}, []int64{7}
	wantPuts(t, "word by word", impl.LogOf(d), []impl.Put{{At: 8, Words: []int64{5, 6}}, {At: 8}, {At: 0, Words: []int64{7}}})
}

// What was put and not flushed is read as well, the header and the slots.
func TestLogOfADiskWithACache(t *testing.T) {
	d := logDisk(9, 22, 4)
	d.Cache = []impl.Put{
		{At: 2 + 23, Words: []int64{1}},
		{At: 26 + 23, Words: []int64{2}},
		{At: 2, Words: []int64{3}},
		{At: 2, Words: nil},
	}
	wantPuts(t, "slots", impl.LogOf(d), plainLog(d))
	d.Cache = append(d.Cache, impl.Put{At: 0, Words: plainPack(impl.Header{Seq: 10, Start: 23, Addrs: []int64{4, 5}})})
	wantPuts(t, "a header", impl.LogOf(d), []impl.Put{{At: 4, Words: []int64{1}}, {At: 5}})
}

func TestAppendStepByStep(t *testing.T) {
	d := mustDisk(t, impl.FormatDisk(4))
	steps := mustSteps(t, impl.PlanAppend(d, []impl.Put{{At: 3, Words: []int64{5}}, {At: 39, Words: nil}, {At: 3, Words: []int64{6, 7}}}))
	head := append([]int64{5, 0, 3, 3, 39, 3}, same(0, 26)...)
	want := []impl.Step{
		{At: 2, Words: []int64{5}},
		{At: 3},
		{At: 4, Words: []int64{6, 7}},
		{Flush: true},
		{At: 1, Words: slices.Concat(head, head)},
		{Flush: true},
	}
	if !sameSteps(steps, want) {
		t.Errorf("%v, want %v", steps, want)
	}
}

// Every beginning, every length of the log, every batch that has room.
func TestAppendsAtEverySlot(t *testing.T) {
	for start := range int64(24) {
		for n := range 25 {
			d := logDisk(100+start, start, n)
			for size := 1; size <= min(12, 24-n); size++ {
				wantSteps(t, "PlanAppend", impl.PlanAppend(d, batchOf(size)), plainAppend(d, batchOf(size)))
			}
		}
	}
}

func TestAppendIsBehindTheLog(t *testing.T) {
	for _, start := range []int64{0, 1, 12, 22, 23} {
		for _, n := range []int{0, 1, 2, 11, 12, 13, 23} {
			d := logDisk(8, start, n)
			batch := batchOf(min(12, 24-n))
			steps := mustSteps(t, impl.PlanAppend(d, batch))
			after := mustDisk(t, impl.RunSteps(d, steps))
			wantPuts(t, "behind an append", impl.LogOf(after), slices.Concat(plainLog(d), batch))
			if len(after.Cache) != 0 || !sameDisks(after, plainRun(d, plainAppend(d, batch))) {
				t.Errorf("start %d, %d in the log: another block is written", start, n)
			}
			if !sameBlocks(after.Blocks[26:], d.Blocks[26:]) {
				t.Errorf("start %d, %d in the log: an append writes home blocks", start, n)
			}
		}
	}
}

func TestBatchOfNothingHasNoSteps(t *testing.T) {
	for _, d := range []impl.Disk{logDisk(1, 0, 0), logDisk(64999, 23, 24), logDisk(6, 5, 12)} {
		for _, puts := range [][]impl.Put{nil, {}} {
			wantSteps(t, "a batch of nothing", impl.PlanAppend(d, puts), nil)
		}
	}
}

func TestPutWithoutWordsTakesASlot(t *testing.T) {
	d := logDisk(6, 23, 1)
	after := mustDisk(t, impl.RunSteps(d, mustSteps(t, impl.PlanAppend(d, []impl.Put{{At: 7}, {At: 0}}))))
	wantPuts(t, "puts without words", impl.LogOf(after), append(plainLog(d), impl.Put{At: 7}, impl.Put{At: 0}))
}

func TestInstallStepByStep(t *testing.T) {
	d := mustDisk(t, impl.FormatDisk(5))
	d.Blocks[1] = plainPack(impl.Header{Seq: 5, Start: 22, Addrs: []int64{0, 39, 0}})
	d.Blocks[24], d.Blocks[25], d.Blocks[2] = []int64{1, 2}, nil, []int64{3}
	head := append([]int64{6, 1, 0}, same(0, 29)...)
	wantSteps(t, "PlanInstall", impl.PlanInstall(d), []impl.Step{
		{At: 26, Words: []int64{1, 2}},
		{At: 65},
		{At: 26, Words: []int64{3}},
		{Flush: true},
		{At: 0, Words: slices.Concat(head, head)},
		{Flush: true},
	})
}

func TestInstallsOfEveryLog(t *testing.T) {
	for start := range int64(24) {
		for n := range 25 {
			d := logDisk(100+start, start, n)
			if n == 0 {
				wantSteps(t, "without Addrs", impl.PlanInstall(d), nil)
				continue
			}
			wantSteps(t, "PlanInstall", impl.PlanInstall(d), plainInstall(d))
			after := mustDisk(t, impl.RunSteps(d, mustSteps(t, impl.PlanInstall(d))))
			want := impl.Header{Seq: 101 + start, Start: (start + int64(n)) % 24}
			wantHeader(t, "begins where the log ends", impl.HeaderIn(after), want)
			wantPuts(t, "behind an install", impl.LogOf(after), nil)
			if !sameBlocks(after.Blocks[2:26], d.Blocks[2:26]) || len(after.Cache) != 0 {
				t.Errorf("start %d, %d in the log: an install writes slots", start, n)
			}
		}
	}
}

func TestInstallOfAFullLogBeginsWhereItBegan(t *testing.T) {
	for start := range int64(24) {
		d := logDisk(10, start, 24)
		after := mustDisk(t, impl.RunSteps(d, mustSteps(t, impl.PlanInstall(d))))
		wantHeader(t, "all the way round", impl.HeaderIn(after), impl.Header{Seq: 11, Start: start})
	}
}

// Plans are of what is read, not of what was flushed.
func TestPlansOfADiskWithACache(t *testing.T) {
	d := logDisk(9, 22, 4)
	d.Cache = []impl.Put{
		{At: 0, Words: plainPack(impl.Header{Seq: 10, Start: 23, Addrs: []int64{4, 5, 6}})},
		{At: 2, Words: []int64{77}},
		{At: 3, Words: nil},
	}
	wantSteps(t, "PlanAppend", impl.PlanAppend(d, batchOf(12)), plainAppend(d, batchOf(12)))
	wantSteps(t, "PlanInstall", impl.PlanInstall(d), plainInstall(d))
}

func TestLastSeqIsReached(t *testing.T) {
	d := logDisk(64999, 3, 5)
	appended := mustDisk(t, impl.RunSteps(d, mustSteps(t, impl.PlanAppend(d, batchOf(2)))))
	wantPuts(t, "appended", impl.LogOf(appended), append(plainLog(d), batchOf(2)...))
	installed := mustDisk(t, impl.RunSteps(d, mustSteps(t, impl.PlanInstall(d))))
	for _, last := range []impl.Disk{appended, installed} {
		if seq := impl.HeaderIn(last).Header.Seq; seq != 65000 {
			t.Errorf("Seq %d, want 65000", seq)
		}
		wantStepsCode(t, "PlanAppend", impl.PlanAppend(last, batchOf(1)), impl.ErrState)
		wantStepsCode(t, "PlanAppend of nothing", impl.PlanAppend(last, nil), impl.ErrState)
		wantStepsCode(t, "PlanInstall", impl.PlanInstall(last), impl.ErrState)
	}
}

func randomBatch(rnd *rand.Rand) []impl.Put {
	var list []impl.Put
	for range rnd.Intn(13) {
		list = append(list, impl.Put{At: rnd.Int63n(40), Words: run(rnd.Int63n(60000), rnd.Intn(65))})
	}
	return list
}

// A log and home blocks that are plain lists: appends go behind the log, an install empties it, whatever slot that is.
func TestLogAgainstAModel(t *testing.T) {
	rnd := rand.New(rand.NewSource(4))
	d := mustDisk(t, impl.FormatDisk(1))
	var log []impl.Put
	home := make([][]int64, 40)
	seq, start, full := int64(1), int64(0), 0
	for range 1500 {
		batch := randomBatch(rnd)
		r := impl.PlanAppend(d, batch)
		switch {
		case len(batch) == 0:
			wantSteps(t, "nothing", r, nil)
		case len(log)+len(batch) > 24:
			full++
			wantStepsCode(t, "no room", r, impl.ErrFull)
			r = impl.PlanInstall(d)
			for _, p := range log {
				home[p.At] = p.Words
				start = plainSlot(start, 1)
			}
			log, seq = nil, seq+1
		default:
			log, seq = append(log, batch...), seq+1
		}
		d = mustDisk(t, impl.RunSteps(d, mustSteps(t, r)))
		wantPuts(t, "the log", impl.LogOf(d), log)
		if h := impl.HeaderIn(d).Header; h.Seq != seq || h.Start != start || !sameBlocks(d.Blocks[26:], home) {
			t.Fatalf("header %v, want Seq %d and Start %d, or home blocks differ", h, seq, start)
		}
	}
	if full < 100 {
		t.Errorf("the log was full just %d times", full)
	}
}
