package tests

import (
	"math/rand"
	"slices"
	"testing"

	"loop.example/g00311/impl"
)

// Promise 5: an install, wherever it is cut off, changes nothing that is seen. Promise 4, as it is seen: of an append all or nothing.

// wantInstallUnseen cuts off the install of d everywhere, with every pick of what was not flushed.
func wantInstallUnseen(t *testing.T, d impl.Disk) {
	t.Helper()
	homes := plainSeen(d)
	want := homes.view()
	steps := mustSteps(t, impl.PlanInstall(d))
	for cut := range len(steps) + 1 {
		now := cutAt(t, d, steps, cut)
		wantView(t, "not crashed", now, want)
		eachPicks(len(now.Cache), func(picks []int64) {
			wantView(t, "crashed", mustDisk(t, impl.CrashDisk(now, picks)), want)
		})
	}
	wantSeen(t, "installed", mustDisk(t, impl.RunSteps(d, steps)), want)
}

func TestInstallCutOffAnywhere(t *testing.T) {
	for _, start := range []int64{0, 11, 22, 23} {
		for n := range 5 {
			wantInstallUnseen(t, logDisk(8, start, n))
			wantInstallUnseen(t, hollowDisk(8, start, n))
		}
	}
	wantInstallUnseen(t, logDisk(64999, 20, 5))
	wantInstallUnseen(t, mustDisk(t, impl.FormatDisk(1)))
}

// One address several times, and slots without words: the home block is torn between what stood there and what goes there.
func TestInstallOfOneAddressCutOffAnywhere(t *testing.T) {
	for _, addrs := range [][]int64{{0, 0}, {39, 39, 39}, {5, 6, 5}, {5, 5, 6, 6}, {7, 7, 7, 7}} {
		for hollow := range 1 << len(addrs) {
			d := logDisk(7, 22, 0)
			d.Blocks[1] = plainPack(impl.Header{Seq: 7, Start: 22, Addrs: addrs})
			for i := range addrs {
				if hollow>>i&1 == 1 {
					d.Blocks[2+plainSlot(22, i)] = nil
				}
			}
			wantInstallUnseen(t, d)
		}
	}
}

// The block that the next header goes to may hold anything; half of that header may be there from a time before.
func TestInstallCutOffOverOtherHeaders(t *testing.T) {
	for _, seq := range []int64{2, 7, 8} {
		next := plainInstall(logDisk(seq, 22, 3))[4].Words
		for _, words := range otherHeaders(seq, next) {
			d := logDisk(seq, 22, 3)
			d.Blocks[(seq+1)%2] = words
			wantInstallUnseen(t, d)
		}
	}
}

// A log of 24 has too many picks to go through them all.
func TestGreatestInstallCutOff(t *testing.T) {
	rnd := rand.New(rand.NewSource(14))
	for _, d := range []impl.Disk{logDisk(8, 5, 24), hollowDisk(8, 23, 24), hollowDisk(9, 0, 12)} {
		homes := plainSeen(d)
		want := homes.view()
		steps := mustSteps(t, impl.PlanInstall(d))
		for cut := range len(steps) + 1 {
			now := cutAt(t, d, steps, cut)
			somePicks(rnd, 24, func(picks []int64) {
				wantView(t, "crashed", mustDisk(t, impl.CrashDisk(now, picks)), want)
			})
		}
	}
}

// An install that was cut off is planned again, and cut off again.
func TestInstallCutOffAgainAndAgain(t *testing.T) {
	rnd := rand.New(rand.NewSource(15))
	for range 60 {
		d := hollowDisk(8, rnd.Int63n(24), 1+rnd.Intn(24))
		homes := plainSeen(d)
		want := homes.view()
		for range 12 {
			steps := mustSteps(t, impl.PlanInstall(d))
			now := cutAt(t, d, steps, rnd.Intn(len(steps)+1))
			d = mustDisk(t, impl.CrashDisk(now, randomPicks(rnd, 24)))
			wantView(t, "again", d, want)
		}
	}
}

// An install may be cut off and an append come next: what is half installed does not come up.
func TestAppendBehindAnInstallThatWasCutOff(t *testing.T) {
	for _, n := range []int{1, 2, 3} {
		d := logDisk(8, 22, n)
		homes := plainSeen(d)
		batch := []impl.Put{{At: 39}, {At: 16, Words: []int64{1}}}
		want := plainApply(homes.view(), batch)
		steps := mustSteps(t, impl.PlanInstall(d))
		for cut := range len(steps) + 1 {
			now := cutAt(t, d, steps, cut)
			eachPicks(len(now.Cache), func(picks []int64) {
				crashed := mustDisk(t, impl.CrashDisk(now, picks))
				next := mustSteps(t, impl.PlanAppend(crashed, batch))
				wantView(t, "appended", mustDisk(t, impl.RunSteps(crashed, next)), want)
			})
		}
	}
}

func TestInstalledHomesHoldWhatIsSeen(t *testing.T) {
	for start := range int64(24) {
		for n := 1; n <= 24; n++ {
			d := hollowDisk(100, start, n)
			homes := plainSeen(d)
			after := mustDisk(t, impl.RunSteps(d, mustSteps(t, impl.PlanInstall(d))))
			wantView(t, "installed", after, homes.view())
			wantInt(t, "installed", impl.RoomIn(after), impl.IntResult{Value: 24})
			if !sameBlocks(after.Blocks[26:], homes[:]) {
				t.Errorf("start %d, %d in the log: the home blocks do not hold what is seen", start, n)
			}
		}
	}
}

// wantAppendSeen cuts off the append of batch everywhere: all of it is seen, or nothing.
func wantAppendSeen(t *testing.T, d impl.Disk, batch []impl.Put) {
	t.Helper()
	homes := plainSeen(d)
	was := homes.view()
	all := plainApply(was, batch)
	steps := mustSteps(t, impl.PlanAppend(d, batch))
	for cut := range len(steps) + 1 {
		now := cutAt(t, d, steps, cut)
		wantView(t, "not crashed", now, either(cut > len(batch)+1, all, was))
		eachPicks(len(now.Cache), func(picks []int64) {
			done := cut == len(steps) || cut == len(steps)-1 && picks[0] == impl.KeepAll
			wantView(t, "crashed", mustDisk(t, impl.CrashDisk(now, picks)), either(done, all, was))
		})
	}
	after := mustDisk(t, impl.RunSteps(d, steps))
	wantSeen(t, "appended", after, all)
	wantInt(t, "appended", impl.RoomIn(after), impl.IntResult{Value: impl.RoomIn(d).Value - int64(len(batch))})
}

func either(first bool, a []impl.Put, b []impl.Put) []impl.Put {
	if first {
		return a
	}
	return b
}

func TestAppendCutOffIsSeenWholeOrNotAtAll(t *testing.T) {
	batches := [][]impl.Put{
		{{At: 0, Words: []int64{1}}},
		{{At: 39}},
		{{At: 5, Words: []int64{1}}, {At: 5}},
		{{At: 5}, {At: 5, Words: []int64{1}}},
		{{At: 5, Words: []int64{1}}, {At: 6}, {At: 5, Words: run(2, 64)}},
		batchOf(4),
	}
	for _, start := range []int64{0, 13, 23} {
		for _, n := range []int{0, 1, 3, 20} {
			for _, batch := range batches {
				wantAppendSeen(t, hollowDisk(8, start, n), batch)
			}
		}
	}
}

// Appends and installs, whole or cut off, beside home blocks that are plain lists.
func TestSeenAgainstAModel(t *testing.T) {
	rnd := rand.New(rand.NewSource(16))
	d := mustDisk(t, impl.FormatDisk(1))
	var want []impl.Put
	lost, won, installs := 0, 0, 0
	for range 3000 {
		batch := homePuts(rnd, 1+rnd.Intn(5), 9)
		r, next := impl.PlanAppend(d, batch), plainApply(want, batch)
		if rnd.Intn(8) == 0 || r.Code == impl.ErrFull {
			r, next = impl.PlanInstall(d), want
			installs++
		}
		steps := mustSteps(t, r)
		now := cutAt(t, d, steps, rnd.Intn(len(steps)+1))
		d = mustDisk(t, impl.CrashDisk(now, randomPicks(rnd, 24)))
		view := impl.ViewOf(d).Puts
		switch {
		case samePuts(view, next):
			won++
		case samePuts(view, want):
			lost++
		default:
			t.Fatalf("%v, want %v or %v", view, want, next)
		}
		want = slices.Clone(view)
		wantView(t, "the view", d, want)
	}
	if lost < 200 || won < 200 || installs < 200 {
		t.Errorf("%d lost, %d won, %d installs: not all are asked", lost, won, installs)
	}
}
