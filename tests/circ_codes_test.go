package tests

import (
	"math"
	"slices"
	"testing"

	"loop.example/g00311/impl"
)

// Promise 1: the functions of the circular log answer at every argument. Here: which code, and which of two comes first.

type stepCase struct {
	name string
	step impl.Step
	code int64
}

func stepCases() []stepCase {
	many, bad := same(1, 65), []int64{-1}
	list := []stepCase{
		{"the zero value", impl.Step{}, impl.OK},
		{"a flush", impl.Step{Flush: true}, impl.OK},
		{"a flush with an empty list", impl.Step{Flush: true, Words: []int64{}}, impl.OK},
		{"a flush with an At", impl.Step{Flush: true, At: 1}, impl.ErrForm},
		{"a flush with a word", impl.Step{Flush: true, Words: []int64{0}}, impl.ErrForm},
		{"a flush with both", impl.Step{Flush: true, At: 5, Words: []int64{1}}, impl.ErrForm},
		{"a flush ahead of At -1", impl.Step{Flush: true, At: -1}, impl.ErrForm},
		{"a flush ahead of At 66", impl.Step{Flush: true, At: 66}, impl.ErrForm},
		{"a flush ahead of many", impl.Step{Flush: true, Words: many}, impl.ErrForm},
		{"a flush ahead of a word", impl.Step{Flush: true, Words: bad}, impl.ErrForm},
		{"the least At", impl.Step{At: math.MinInt64}, impl.ErrRange},
		{"At -1", impl.Step{At: -1}, impl.ErrRange},
		{"At 0", impl.Step{At: 0, Words: []int64{1}}, impl.OK},
		{"At 65", impl.Step{At: 65, Words: []int64{1}}, impl.OK},
		{"At 66", impl.Step{At: 66}, impl.ErrRange},
		{"At 69", impl.Step{At: 69}, impl.ErrRange},
		{"the greatest At", impl.Step{At: math.MaxInt64}, impl.ErrRange},
		{"At ahead of many", impl.Step{At: 66, Words: many}, impl.ErrRange},
		{"At -1 ahead of many", impl.Step{At: -1, Words: many}, impl.ErrRange},
	}
	for _, c := range wordsCases() {
		list = append(list, stepCase{c.name, impl.Step{At: 7, Words: c.words}, c.code})
	}
	return list
}

func TestStepFaultCodes(t *testing.T) {
	for _, c := range stepCases() {
		if code := impl.StepFault(c.step); code != c.code {
			t.Errorf("%s: %d, want %d", c.name, code, c.code)
		}
	}
}

func TestRunStepsAsksTheStepFault(t *testing.T) {
	good := []impl.Step{{At: 3, Words: []int64{1}}, {Flush: true}}
	for _, c := range stepCases() {
		for _, list := range [][]impl.Step{{c.step}, slices.Concat(good, []impl.Step{c.step}), slices.Concat([]impl.Step{c.step}, good)} {
			wantDiskCode(t, c.name, impl.RunSteps(emptyDisk(66), list), c.code)
		}
	}
}

// Each step is asked all, ahead of the next one.
func TestRunStepsGoesStepByStep(t *testing.T) {
	for _, a := range stepCases() {
		for _, b := range stepCases() {
			want := a.code
			if want == impl.OK {
				want = b.code
			}
			wantDiskCode(t, a.name+", "+b.name, impl.RunSteps(emptyDisk(66), []impl.Step{a.step, b.step}), want)
		}
	}
}

func TestRunStepsAsksTheDiskFirst(t *testing.T) {
	bad := []impl.Step{{At: 66}}
	many := slices.Repeat(bad, 121)
	for _, c := range diskCases() {
		code := c.code
		if code == impl.OK {
			code = impl.ErrForm // none of these has 66 blocks
		}
		for _, list := range [][]impl.Step{nil, {{Flush: true}}, bad, many} {
			wantDiskCode(t, c.name, impl.RunSteps(c.disk, list), code)
		}
	}
	for size, code := range map[int]int64{0: impl.ErrForm, 65: impl.ErrForm, 66: impl.OK, 67: impl.ErrForm, 70: impl.ErrForm, 71: impl.ErrMany} {
		wantDiskCode(t, "the size", impl.RunSteps(emptyDisk(size), nil), code)
	}
	wrong := emptyDisk(65)
	wrong.Blocks[64] = []int64{65536}
	wantDiskCode(t, "a fault ahead of the size", impl.RunSteps(wrong, nil), impl.ErrRange)
}

func TestRunStepsCountsThem(t *testing.T) {
	d := emptyDisk(66)
	wantDiskCode(t, "120 steps", impl.RunSteps(d, slices.Repeat([]impl.Step{{At: 1}}, 120)), impl.OK)
	wantDiskCode(t, "121 steps", impl.RunSteps(d, slices.Repeat([]impl.Step{{At: 1}}, 121)), impl.ErrMany)
	wantDiskCode(t, "121 flushes", impl.RunSteps(d, slices.Repeat([]impl.Step{{Flush: true}}, 121)), impl.ErrMany)
	wantDiskCode(t, "120 steps, the last is wrong", impl.RunSteps(d, append(slices.Repeat([]impl.Step{{At: 1}}, 119), impl.Step{At: 66})), impl.ErrRange)
	wantDiskCode(t, "121 ahead of a fault", impl.RunSteps(d, slices.Repeat([]impl.Step{{At: 66}}, 121)), impl.ErrMany)
	wantDiskCode(t, "121 ahead of a flush with more", impl.RunSteps(d, slices.Repeat([]impl.Step{{Flush: true, At: 1}}, 121)), impl.ErrMany)
}

// A put behind a cache of 200 has the code of PutBlock; it is asked ahead of the next step.
func TestRunStepsOfAFullCache(t *testing.T) {
	full := emptyDisk(66)
	full.Cache = putsAt(5, 200)
	put, flush := impl.Step{At: 3, Words: []int64{1}}, impl.Step{Flush: true}
	cases := []struct {
		name string
		list []impl.Step
		code int64
	}{
		{"no steps", nil, impl.OK},
		{"a put", []impl.Step{put}, impl.ErrMany},
		{"a put without words", []impl.Step{{At: 0}}, impl.ErrMany},
		{"a flush makes room", []impl.Step{flush, put}, impl.OK},
		{"a put ahead of the flush", []impl.Step{put, flush}, impl.ErrMany},
		{"a put ahead of a fault", []impl.Step{put, {At: 66}}, impl.ErrMany},
		{"a put ahead of a flush with more", []impl.Step{put, {Flush: true, At: 1}}, impl.ErrMany},
		{"a fault ahead of a put", []impl.Step{{At: 66}, put}, impl.ErrRange},
		{"its own fault ahead of the cache", []impl.Step{{At: 3, Words: []int64{-1}}}, impl.ErrRange},
	}
	for _, c := range cases {
		wantDiskCode(t, c.name, impl.RunSteps(full, c.list), c.code)
	}
	near := emptyDisk(66)
	near.Cache = putsAt(5, 81)
	wantDiskCode(t, "81 and 119", impl.RunSteps(near, slices.Repeat([]impl.Step{put}, 119)), impl.OK)
	wantDiskCode(t, "81 and 120", impl.RunSteps(near, slices.Repeat([]impl.Step{put}, 120)), impl.ErrMany)
}

func TestRunStepsAsksForNoHeader(t *testing.T) {
	d := mustDisk(t, impl.RunSteps(emptyDisk(66), []impl.Step{{At: 0, Words: []int64{1}}, {Flush: true}, {At: 65, Words: []int64{2}}}))
	want := emptyDisk(66)
	want.Blocks[0] = []int64{1}
	want.Cache = []impl.Put{{At: 65, Words: []int64{2}}}
	if !sameDisks(d, want) {
		t.Errorf("%v, want %v", d, want)
	}
}

func TestSlotOfCodes(t *testing.T) {
	for i, code := range map[int64]int64{math.MinInt64: impl.ErrRange, -1: impl.ErrRange, 0: impl.OK, 23: impl.OK, 24: impl.ErrRange, math.MaxInt64: impl.ErrRange} {
		want := impl.IntResult{Code: code}
		if code == impl.OK {
			want.Value = (5 + i) % 24
		}
		wantInt(t, "i", impl.SlotOf(impl.Header{Seq: 3, Start: 5}, i), want)
		for _, c := range headerCases() {
			if c.code != impl.OK {
				wantInt(t, c.name, impl.SlotOf(c.header, i), impl.IntResult{Code: c.code})
			}
		}
	}
	for _, c := range headerCases() {
		if c.code == impl.OK {
			wantInt(t, c.name, impl.SlotOf(c.header, 0), impl.IntResult{Value: c.header.Start})
		}
	}
}

// Disks with the code that HeaderIn has of them.
func headerInCases() []diskCase {
	list := []diskCase{
		{"no header", emptyDisk(66), impl.ErrNone},
		{"a header at the other block", diskOf(nil, plainPack(impl.Header{Seq: 2})), impl.ErrNone},
		{"half a header", diskOf(plainHalf(impl.Header{Seq: 2}), nil), impl.ErrNone},
	}
	for _, size := range []int{65, 67} {
		d := emptyDisk(size)
		d.Blocks[0] = plainPack(impl.Header{Seq: 2, Addrs: []int64{1}})
		list = append(list, diskCase{"a header, but another size", d, impl.ErrForm})
	}
	for _, at := range []int64{-1, 66} {
		d := logDisk(4, 0, 3)
		d.Cache = putsAt(at, 1)
		list = append(list, diskCase{"a put at no place", d, impl.ErrRange})
	}
	d := logDisk(4, 0, 3)
	d.Blocks[65] = same(1, 65)
	list = append(list, diskCase{"many words", d, impl.ErrMany})
	for _, c := range diskCases() {
		if c.code == impl.OK {
			c.code = impl.ErrForm // none of these has 66 blocks
		}
		list = append(list, c)
	}
	return list
}

func TestTheLogAsksHeaderInFirst(t *testing.T) {
	wrong := [][]impl.Put{nil, batchOf(1), batchOf(13), {{At: 40}}, {{At: 0, Words: same(1, 65)}}}
	for _, c := range headerInCases() {
		wantHeaderCode(t, c.name, impl.HeaderIn(c.disk), c.code)
		wantPutsCode(t, c.name, impl.LogOf(c.disk), c.code)
		wantStepsCode(t, c.name, impl.PlanInstall(c.disk), c.code)
		for _, puts := range wrong {
			wantStepsCode(t, c.name, impl.PlanAppend(c.disk, puts), c.code)
		}
	}
}

type putsCase struct {
	name string
	puts []impl.Put
	code int64
}

// putsCases are right and wrong puts into home blocks, fewer than 13.
func putsCases() []putsCase {
	many, bad := same(1, 65), []int64{-1}
	list := []putsCase{
		{"the least home block", []impl.Put{{At: math.MinInt64}}, impl.ErrRange},
		{"home block -1", []impl.Put{{At: -1}}, impl.ErrRange},
		{"home block 0", []impl.Put{{At: 0}}, impl.OK},
		{"home block 39", []impl.Put{{At: 39}}, impl.OK},
		{"home block 40", []impl.Put{{At: 40}}, impl.ErrRange},
		{"home block 65", []impl.Put{{At: 65}}, impl.ErrRange},
		{"the greatest home block", []impl.Put{{At: math.MaxInt64}}, impl.ErrRange},
		{"a home block twice", []impl.Put{{At: 5, Words: []int64{1}}, {At: 5, Words: []int64{2}}}, impl.OK},
		{"the last of 12", append(batchOf(11), impl.Put{At: 40}), impl.ErrRange},
		{"a block ahead of its words", []impl.Put{{At: 40, Words: many}}, impl.ErrRange},
		{"put by put: many ahead of a block", []impl.Put{{At: 1, Words: many}, {At: 40}}, impl.ErrMany},
		{"put by put: a word ahead of many", []impl.Put{{At: 1, Words: bad}, {At: 1, Words: many}}, impl.ErrRange},
		{"put by put: a block ahead of many", []impl.Put{{At: -1}, {At: 1, Words: many}}, impl.ErrRange},
	}
	for _, c := range wordsCases() {
		list = append(list, putsCase{c.name, []impl.Put{{At: 3}, {At: 39, Words: c.words}}, c.code})
	}
	return list
}

func TestPlanAppendAsksThePuts(t *testing.T) {
	last := logDisk(65000, 4, 2)
	full := logDisk(7, 4, 24)
	for _, c := range putsCases() {
		wantStepsCode(t, c.name, impl.PlanAppend(logDisk(7, 4, 2), c.puts), c.code)
		atLast, atFull := c.code, c.code
		if c.code == impl.OK {
			atLast, atFull = impl.ErrState, impl.ErrFull
		}
		wantStepsCode(t, "Seq 65000: "+c.name, impl.PlanAppend(last, c.puts), atLast)
		wantStepsCode(t, "full: "+c.name, impl.PlanAppend(full, c.puts), atFull)
	}
}

func TestPlanAppendCountsThePuts(t *testing.T) {
	wrong := slices.Repeat([]impl.Put{{At: 40}}, 13)
	for _, d := range []impl.Disk{logDisk(7, 4, 0), logDisk(65000, 4, 0), logDisk(7, 4, 24)} {
		wantStepsCode(t, "13 puts", impl.PlanAppend(d, batchOf(13)), impl.ErrMany)
		wantStepsCode(t, "13 ahead of a block", impl.PlanAppend(d, wrong), impl.ErrMany)
	}
	wantStepsCode(t, "12 puts", impl.PlanAppend(logDisk(7, 4, 0), batchOf(12)), impl.OK)
}

func TestPlanAppendHasJustRoom(t *testing.T) {
	for size := 1; size <= 12; size++ {
		for _, start := range []int64{0, 9, 23} {
			wantStepsCode(t, "just room", impl.PlanAppend(logDisk(6, start, 24-size), batchOf(size)), impl.OK)
			wantStepsCode(t, "one more", impl.PlanAppend(logDisk(6, start, 25-size), batchOf(size)), impl.ErrFull)
		}
	}
}

func TestPlansAtTheLastSeq(t *testing.T) {
	for _, n := range []int{0, 1, 24} {
		last, ahead := logDisk(65000, 3, n), logDisk(64999, 3, n)
		wantStepsCode(t, "PlanInstall at 65000", impl.PlanInstall(last), impl.ErrState)
		wantStepsCode(t, "PlanInstall at 64999", impl.PlanInstall(ahead), impl.OK)
		for _, size := range []int{0, 1, 12} {
			wantStepsCode(t, "PlanAppend at 65000", impl.PlanAppend(last, batchOf(size)), impl.ErrState)
			code := int64(impl.OK)
			if n+size > 24 {
				code = impl.ErrFull
			}
			wantStepsCode(t, "PlanAppend at 64999", impl.PlanAppend(ahead, batchOf(size)), code)
		}
	}
}

// Steps that are planned have no fault, so they can be run.
func TestPlannedStepsHaveNoFault(t *testing.T) {
	for _, n := range []int{0, 1, 12, 24} {
		d := logDisk(64999, 17, n)
		for _, x := range slices.Concat(impl.PlanInstall(d).Steps, impl.PlanAppend(d, batchOf(12)).Steps) {
			if code := impl.StepFault(x); code != impl.OK {
				t.Errorf("%v: %d", x, code)
			}
		}
	}
}

func TestNilAndEmptyAreTheSameToTheLog(t *testing.T) {
	d := logDisk(6, 22, 3)
	a := []impl.Put{{At: 1, Words: nil}}
	b := []impl.Put{{At: 1, Words: []int64{}}}
	wantSteps(t, "PlanAppend", impl.PlanAppend(d, a), impl.PlanAppend(d, b).Steps)
	wantDiskCode(t, "RunSteps", impl.RunSteps(d, []impl.Step{}), impl.OK)
	if !sameDisks(impl.RunSteps(d, nil).Disk, d) || !sameDisks(impl.RunSteps(d, []impl.Step{}).Disk, d) {
		t.Error("no steps change the disk")
	}
	open := diskOf(plainPack(impl.Header{Seq: 2, Addrs: []int64{4}}), []int64{})
	wantPuts(t, "LogOf", impl.LogOf(open), []impl.Put{{At: 4}})
}
