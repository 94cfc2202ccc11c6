package tests

import (
	"math/rand"
	"slices"
	"testing"

	"loop.example/g00311/impl"
)

// Promise 4: wherever an append is cut off, and whatever of what was not flushed is there, the log is as it was or all of the batch is behind it; steps that are run in two parts are as if in one.

// eachPicks calls do with every list of n picks.
func eachPicks(n int, do func(picks []int64)) {
	picks := make([]int64, n)
	for {
		do(picks)
		i := 0
		for i < n && picks[i] == impl.KeepSecond {
			picks[i] = impl.KeepNone
			i++
		}
		if i == n {
			return
		}
		picks[i]++
	}
}

func cutAt(t *testing.T, d impl.Disk, steps []impl.Step, cut int) impl.Disk {
	t.Helper()
	return mustDisk(t, impl.RunSteps(d, steps[:cut]))
}

// otherHeaders are words that may stand at the block of the header of seq+1, beside one of seq: none, an older header, and what cut off writes left.
func otherHeaders(seq int64, next []int64) [][]int64 {
	older := plainPack(impl.Header{Seq: max(seq-1, 1), Start: 7, Addrs: addrsOf(9)})
	return [][]int64{
		nil,
		older,
		run(1, 64),
		slices.Concat(next[:32], older[32:]),
		slices.Concat(older[:32], next[32:]),
		next[:32],
	}
}

// wantCutOff cuts off the append of batch everywhere. Where the header is one of another number all along, it must be there whole to count.
func wantCutOff(t *testing.T, d impl.Disk, batch []impl.Put, strict bool) {
	t.Helper()
	was := plainLog(d)
	all := slices.Concat(was, batch)
	steps := mustSteps(t, impl.PlanAppend(d, batch))
	for cut := range len(steps) + 1 {
		now := cutAt(t, d, steps, cut)
		wantLogIs(t, "not crashed", now, cut > len(batch)+1, was, all)
		eachPicks(len(now.Cache), func(picks []int64) {
			crashed := mustDisk(t, impl.CrashDisk(now, picks))
			flushed := cut == len(steps)
			put := cut == len(steps)-1
			if put && !strict {
				wantEither(t, crashed, was, all)
				return
			}
			wantLogIs(t, "crashed", crashed, flushed || put && picks[0] == impl.KeepAll, was, all)
		})
	}
}

func wantLogIs(t *testing.T, name string, d impl.Disk, done bool, was []impl.Put, all []impl.Put) {
	t.Helper()
	want := was
	if done {
		want = all
	}
	if r := impl.LogOf(d); r.Code != impl.OK || !samePuts(r.Puts, want) {
		t.Fatalf("%s: %v, want %v", name, r, want)
	}
}

func wantEither(t *testing.T, d impl.Disk, was []impl.Put, all []impl.Put) {
	t.Helper()
	if r := impl.LogOf(d); r.Code != impl.OK || !samePuts(r.Puts, was) && !samePuts(r.Puts, all) {
		t.Fatalf("%v, want %v or %v", r, was, all)
	}
}

func TestAppendCutOffAnywhere(t *testing.T) {
	for _, start := range []int64{0, 11, 21, 23} {
		for _, n := range []int{0, 1, 3, 20} {
			for size := 1; size <= 3; size++ {
				wantCutOff(t, logDisk(8, start, n), batchOf(size), true)
			}
		}
	}
	wantCutOff(t, logDisk(64999, 20, 19), batchOf(5), true)
	wantCutOff(t, mustDisk(t, impl.FormatDisk(1)), batchOf(4), true)
}

// The block that the next header goes to may hold anything; half of that header may be there from a time before.
func TestAppendCutOffOverOtherHeaders(t *testing.T) {
	batch := batchOf(2)
	for _, seq := range []int64{2, 7, 8} {
		plain := logDisk(seq, 22, 3)
		next := plainAppend(plain, batch)[3].Words
		for i, words := range otherHeaders(seq, next) {
			d := logDisk(seq, 22, 3)
			d.Blocks[(seq+1)%2] = words
			wantCutOff(t, d, batch, i < 3)
		}
	}
}

// A batch of 12 has too many picks to go through them all.
func TestGreatestAppendCutOff(t *testing.T) {
	rnd := rand.New(rand.NewSource(5))
	for _, start := range []int64{0, 5, 13, 23} {
		d := logDisk(8, start, 12)
		was, all := plainLog(d), append(plainLog(d), batchOf(12)...)
		steps := mustSteps(t, impl.PlanAppend(d, batchOf(12)))
		for cut := range len(steps) + 1 {
			now := cutAt(t, d, steps, cut)
			somePicks(rnd, 12, func(picks []int64) {
				crashed := mustDisk(t, impl.CrashDisk(now, picks))
				done := cut == 15 || cut == 14 && picks[0] == impl.KeepAll
				wantLogIs(t, "crashed", crashed, done, was, all)
			})
		}
	}
}

// somePicks calls do with n picks that are all the same, and with others at random.
func somePicks(rnd *rand.Rand, n int, do func(picks []int64)) {
	for pick := range int64(4) {
		do(same(pick, n))
	}
	for range 36 {
		do(randomPicks(rnd, n))
	}
}

func randomPicks(rnd *rand.Rand, n int) []int64 {
	var picks []int64
	for range n {
		picks = append(picks, rnd.Int63n(4))
	}
	return picks
}

// What was cut off is tried again, by the same or another batch, and cut off again: what stays behind of the one never comes up in the other.
func TestAppendCutOffAgainAndAgain(t *testing.T) {
	rnd := rand.New(rand.NewSource(6))
	d := mustDisk(t, impl.FormatDisk(1))
	var log []impl.Put
	lost, won := 0, 0
	for range 4000 {
		// Few addresses, so that two tries often have the same header.
		batch := putsAt(rnd.Int63n(2), 1+rnd.Intn(2))
		batch[0].Words = run(rnd.Int63n(60000), rnd.Intn(65))
		if len(log)+len(batch) > 24 {
			d = mustDisk(t, impl.RunSteps(d, mustSteps(t, impl.PlanInstall(d))))
			log = nil
		}
		steps := mustSteps(t, impl.PlanAppend(d, batch))
		now := cutAt(t, d, steps, rnd.Intn(len(steps)+1))
		d = mustDisk(t, impl.CrashDisk(now, randomPicks(rnd, 3)))
		wantEither(t, d, log, slices.Concat(log, batch))
		if got := impl.LogOf(d).Puts; len(got) != len(log) {
			log = got
			won++
			continue
		}
		lost++
	}
	if lost < 500 || won < 500 {
		t.Errorf("%d lost and %d won: not both are asked", lost, won)
	}
}

// What was put elsewhere and not flushed ahead of an append is nothing to it.
func TestAppendCutOffBehindOtherPuts(t *testing.T) {
	d := logDisk(8, 22, 3)
	d.Cache = []impl.Put{{At: 26, Words: []int64{1, 2}}, {At: 60, Words: run(1, 64)}}
	was, all := plainLog(d), append(plainLog(d), batchOf(2)...)
	steps := mustSteps(t, impl.PlanAppend(d, batchOf(2)))
	for cut := range len(steps) + 1 {
		now := cutAt(t, d, steps, cut)
		eachPicks(len(now.Cache), func(picks []int64) {
			crashed := mustDisk(t, impl.CrashDisk(now, picks))
			wantLogIs(t, "crashed", crashed, cut == 5 || cut == 4 && picks[0] == impl.KeepAll, was, all)
		})
	}
}

func randomSteps(rnd *rand.Rand, n int) []impl.Step {
	var list []impl.Step
	for range n {
		if rnd.Intn(5) == 0 {
			list = append(list, impl.Step{Flush: true})
			continue
		}
		list = append(list, impl.Step{At: rnd.Int63n(66), Words: run(rnd.Int63n(60000), rnd.Intn(65))})
	}
	return list
}

func TestStepsRunInTwoParts(t *testing.T) {
	rnd := rand.New(rand.NewSource(7))
	for _, n := range []int{0, 1, 2, 15, 60, 120} {
		d := logDisk(8, 22, 3)
		d.Cache = randomDiskPuts(rnd, rnd.Intn(60))
		list := randomSteps(rnd, n)
		whole := mustDisk(t, impl.RunSteps(d, list))
		if !sameDisks(whole, plainRun(d, list)) {
			t.Errorf("%d steps: not what puts and flushes come to", n)
		}
		for cut := range n + 1 {
			parts := mustDisk(t, impl.RunSteps(cutAt(t, d, list, cut), list[cut:]))
			if !sameDisks(parts, whole) {
				t.Errorf("%d steps cut at %d: not as if in one", n, cut)
			}
		}
	}
}

func randomDiskPuts(rnd *rand.Rand, n int) []impl.Put {
	var list []impl.Put
	for _, x := range randomSteps(rnd, n) {
		list = append(list, impl.Put{At: x.At, Words: x.Words})
	}
	return list
}

// Where a step has a fault, the parts come to its code as well.
func TestFaultyStepsRunInTwoParts(t *testing.T) {
	d := emptyDisk(66)
	d.Cache = putsAt(5, 199)
	good, bad := impl.Step{At: 3, Words: []int64{1}}, impl.Step{At: 66}
	for _, list := range [][]impl.Step{{good, bad}, {good, good, bad}, {good, {Flush: true}, good, good, bad}, {bad, good, good}} {
		whole := impl.RunSteps(d, list)
		for cut := range len(list) + 1 {
			first := impl.RunSteps(d, list[:cut])
			if first.Code == impl.OK {
				first = impl.RunSteps(first.Disk, list[cut:])
			}
			wantDiskCode(t, "in two parts", first, whole.Code)
		}
	}
}

func TestPlansRunInTwoParts(t *testing.T) {
	for _, n := range []int{1, 12, 20} {
		d := logDisk(8, 20, n)
		for _, r := range []impl.StepsResult{impl.PlanAppend(d, batchOf(4)), impl.PlanInstall(d)} {
			steps := mustSteps(t, r)
			whole := mustDisk(t, impl.RunSteps(d, steps))
			for cut := range len(steps) + 1 {
				parts := mustDisk(t, impl.RunSteps(cutAt(t, d, steps, cut), steps[cut:]))
				if !sameDisks(parts, whole) {
					t.Errorf("%d in the log, cut at %d: not as if in one", n, cut)
				}
			}
		}
	}
}
