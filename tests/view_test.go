package tests

import (
	"math/rand"
	"slices"
	"testing"

	"loop.example/g00311/impl"
)

// Promise 5: what is seen is the home blocks with the log over them, and puts of which just the last one of each block is left do what all did.

// plainHomes is what each of the 40 home blocks holds; one that is empty has no words.
type plainHomes [40][]int64

func (h *plainHomes) put(puts []impl.Put) {
	for _, p := range puts {
		h[p.At] = p.Words
	}
}

func (h *plainHomes) view() []impl.Put {
	var list []impl.Put
	for at, words := range h {
		if len(words) > 0 {
			list = append(list, impl.Put{At: int64(at), Words: words})
		}
	}
	return list
}

// plainSeen takes a disk that has a header.
func plainSeen(d impl.Disk) plainHomes {
	var h plainHomes
	for at := range h {
		h[at] = plainRead(d, 26+int64(at))
	}
	h.put(plainLog(d))
	return h
}

// plainApply goes block by block, and takes the last put of each.
func plainApply(view []impl.Put, puts []impl.Put) []impl.Put {
	var h plainHomes
	h.put(view)
	h.put(puts)
	return h.view()
}

// plainAbsorb goes from the last one on and passes over blocks that it met already.
func plainAbsorb(puts []impl.Put) []impl.Put {
	var met [40]bool
	var list []impl.Put
	for _, p := range slices.Backward(puts) {
		if !met[p.At] {
			list = append(list, p)
		}
		met[p.At] = true
	}
	slices.Reverse(list)
	return list
}

// wantSeen fails if ViewOf or ReadHome of one of the home blocks tells something else.
func wantSeen(t *testing.T, name string, d impl.Disk, want []impl.Put) {
	t.Helper()
	var homes plainHomes
	homes.put(want)
	wantPuts(t, name+": ViewOf", impl.ViewOf(d), want)
	for at, words := range homes {
		wantWords(t, name+": ReadHome", impl.ReadHome(d, int64(at)), words)
	}
}

// wantView is wantSeen without the home blocks one by one, where there are many disks.
func wantView(t *testing.T, name string, d impl.Disk, want []impl.Put) {
	t.Helper()
	if r := impl.ViewOf(d); r.Code != impl.OK || !samePuts(r.Puts, want) {
		t.Fatalf("%s: %v, want %v", name, r, want)
	}
}

// hollowDisk is a logDisk of which some home blocks and some slots have no words.
func hollowDisk(seq int64, start int64, n int) impl.Disk {
	d := logDisk(seq, start, n)
	for at := 2; at < 66; at++ {
		if at%3 == 1 || at%5 == 0 {
			d.Blocks[at] = nil
		}
	}
	return d
}

func TestSeenBlockByBlock(t *testing.T) {
	d := mustDisk(t, impl.FormatDisk(4))
	d.Blocks[0] = plainPack(impl.Header{Seq: 4, Start: 22, Addrs: []int64{39, 2, 0, 2, 7, 5}})
	d.Blocks[24], d.Blocks[25], d.Blocks[2] = []int64{1}, []int64{2}, nil
	d.Blocks[3], d.Blocks[4], d.Blocks[5] = []int64{4, 5}, nil, []int64{6}
	d.Blocks[26], d.Blocks[27], d.Blocks[28] = []int64{10}, []int64{11}, []int64{12}
	d.Blocks[31], d.Blocks[33], d.Blocks[64] = nil, []int64{13}, []int64{14}
	wantSeen(t, "by hand", d, []impl.Put{
		{At: 1, Words: []int64{11}},
		{At: 2, Words: []int64{4, 5}},
		{At: 5, Words: []int64{6}},
		{At: 38, Words: []int64{14}},
		{At: 39, Words: []int64{1}},
	})
}

func TestNothingIsSeenOnAFormattedDisk(t *testing.T) {
	for _, seq := range []int64{1, 2, 65000} {
		wantSeen(t, "formatted", mustDisk(t, impl.FormatDisk(seq)), nil)
	}
}

func TestHomeBlocksAloneAreSeen(t *testing.T) {
	d := logDisk(7, 11, 0)
	var want []impl.Put
	for at := range int64(40) {
		want = append(want, impl.Put{At: at, Words: d.Blocks[26+at]})
	}
	wantSeen(t, "an empty log", d, want)
}

func TestSeenAtEverySlot(t *testing.T) {
	for start := range int64(24) {
		for n := range 25 {
			for _, d := range []impl.Disk{logDisk(9, start, n), hollowDisk(9, start, n)} {
				homes := plainSeen(d)
				wantSeen(t, "the log over the home blocks", d, homes.view())
			}
		}
	}
}

// A log of one address alone: the last one counts, not one ahead of it, and it counts also where it has no words.
func TestLastOfTheLogIsSeen(t *testing.T) {
	for _, n := range []int{1, 2, 12, 24} {
		for _, at := range []int64{0, 17, 39} {
			d := logDisk(9, 20, 0)
			d.Blocks[1] = plainPack(impl.Header{Seq: 9, Start: 20, Addrs: same(at, n)})
			last := 2 + plainSlot(20, n-1)
			wantWords(t, "the last one", impl.ReadHome(d, at), d.Blocks[last])
			d.Blocks[last] = nil
			wantWords(t, "the last one has no words", impl.ReadHome(d, at), nil)
			if list := impl.ViewOf(d).Puts; len(list) != 39 {
				t.Errorf("%d are seen, want 39", len(list))
			}
			if n > 1 {
				d.Blocks[last], d.Blocks[2+plainSlot(20, n-2)] = []int64{8}, nil
				wantWords(t, "the one ahead has no words", impl.ReadHome(d, at), []int64{8})
			}
		}
	}
}

// What was put and not flushed is read as well: headers, slots and home blocks.
func TestSeenOfADiskWithACache(t *testing.T) {
	rnd := rand.New(rand.NewSource(11))
	for range 300 {
		d := hollowDisk(9, rnd.Int63n(24), rnd.Intn(25))
		for range rnd.Intn(60) {
			d.Cache = append(d.Cache, impl.Put{At: 2 + rnd.Int63n(64), Words: run(rnd.Int63n(60000), rnd.Intn(4))})
		}
		if rnd.Intn(2) == 0 {
			h := impl.Header{Seq: 10, Start: rnd.Int63n(24), Addrs: addrsOf(rnd.Intn(25))}
			d.Cache = append(d.Cache, impl.Put{At: 0, Words: plainPack(h)})
		}
		homes := plainSeen(d)
		wantSeen(t, "with a cache", d, homes.view())
	}
}

// The view is the log put over what is seen without it.
func TestViewIsTheLogOverTheHomeBlocks(t *testing.T) {
	for _, start := range []int64{0, 5, 23} {
		for _, n := range []int{0, 1, 7, 24} {
			d := hollowDisk(6, start, n)
			bare := hollowDisk(6, start, 0)
			wantPuts(t, "the log put over", impl.ApplyPuts(impl.ViewOf(bare).Puts, impl.LogOf(d).Puts), impl.ViewOf(d).Puts)
		}
	}
}

func TestRoomIsWhatTheLogLeaves(t *testing.T) {
	for n := range 25 {
		for _, start := range []int64{0, 23} {
			wantInt(t, "RoomIn", impl.RoomIn(logDisk(9, start, n)), impl.IntResult{Value: int64(24 - n)})
		}
	}
	d := logDisk(9, 0, 20)
	d.Cache = []impl.Put{{At: 0, Words: plainPack(impl.Header{Seq: 10, Addrs: addrsOf(3)})}}
	wantInt(t, "a header in the cache", impl.RoomIn(d), impl.IntResult{Value: 21})
}

// A batch has room just where RoomIn says so, and is planned there.
func TestRoomIsTheGreatestBatch(t *testing.T) {
	for n := range 25 {
		d := logDisk(9, 7, n)
		for size := 1; size <= 12; size++ {
			code := int64(impl.OK)
			if int64(size) > impl.RoomIn(d).Value {
				code = impl.ErrFull
			}
			wantStepsCode(t, "PlanAppend", impl.PlanAppend(d, batchOf(size)), code)
		}
	}
}

func TestAbsorbByHand(t *testing.T) {
	one, two, three := []int64{1}, []int64{2}, []int64{3}
	cases := []struct {
		name       string
		a, b, want []impl.Put
	}{
		{"nothing", nil, nil, nil},
		{"empty lists", []impl.Put{}, []impl.Put{}, nil},
		{"a alone", []impl.Put{{At: 5, Words: one}, {At: 3, Words: two}}, nil, []impl.Put{{At: 5, Words: one}, {At: 3, Words: two}}},
		{"b alone", nil, []impl.Put{{At: 5, Words: one}, {At: 3, Words: two}}, []impl.Put{{At: 5, Words: one}, {At: 3, Words: two}}},
		{"a ahead of b, not sorted", []impl.Put{{At: 9, Words: one}}, []impl.Put{{At: 3, Words: two}}, []impl.Put{{At: 9, Words: one}, {At: 3, Words: two}}},
		{"b has it as well", []impl.Put{{At: 3, Words: one}, {At: 4, Words: two}}, []impl.Put{{At: 3, Words: three}}, []impl.Put{{At: 4, Words: two}, {At: 3, Words: three}}},
		{"the same words", []impl.Put{{At: 3, Words: one}, {At: 4, Words: two}}, []impl.Put{{At: 3, Words: one}}, []impl.Put{{At: 4, Words: two}, {At: 3, Words: one}}},
		{"b has all", []impl.Put{{At: 3, Words: one}}, []impl.Put{{At: 3, Words: two}}, []impl.Put{{At: 3, Words: two}}},
		{"twice in b", nil, []impl.Put{{At: 3, Words: one}, {At: 4, Words: two}, {At: 3, Words: three}}, []impl.Put{{At: 4, Words: two}, {At: 3, Words: three}}},
		{"twice in a", []impl.Put{{At: 3, Words: one}, {At: 4, Words: two}, {At: 3, Words: three}}, nil, []impl.Put{{At: 4, Words: two}, {At: 3, Words: three}}},
		{"twice in both", []impl.Put{{At: 3, Words: one}, {At: 3, Words: two}, {At: 0, Words: one}, {At: 0, Words: two}}, []impl.Put{{At: 3, Words: three}, {At: 3, Words: one}}, []impl.Put{{At: 0, Words: two}, {At: 3, Words: one}}},
		{"without words in b", []impl.Put{{At: 3, Words: one}}, []impl.Put{{At: 3}}, []impl.Put{{At: 3}}},
		{"without words in a", []impl.Put{{At: 3}}, []impl.Put{{At: 4, Words: one}}, []impl.Put{{At: 3}, {At: 4, Words: one}}},
		{"without words, then with", []impl.Put{{At: 3}}, []impl.Put{{At: 3, Words: one}}, []impl.Put{{At: 3, Words: one}}},
		{"the first and the last block", []impl.Put{{At: 39, Words: one}, {At: 0, Words: two}}, []impl.Put{{At: 39, Words: two}, {At: 0}}, []impl.Put{{At: 39, Words: two}, {At: 0}}},
	}
	for _, c := range cases {
		wantPuts(t, c.name, impl.AbsorbPuts(c.a, c.b), c.want)
	}
}

func TestApplyByHand(t *testing.T) {
	one, two := []int64{1}, []int64{2}
	view := []impl.Put{{At: 0, Words: one}, {At: 5, Words: run(7, 64)}, {At: 39, Words: two}}
	cases := []struct {
		name             string
		view, puts, want []impl.Put
	}{
		{"nothing", nil, nil, nil},
		{"no puts", view, nil, view},
		{"an empty list of puts", view, []impl.Put{}, view},
		{"over an empty view", nil, []impl.Put{{At: 7, Words: two}, {At: 3, Words: one}}, []impl.Put{{At: 3, Words: one}, {At: 7, Words: two}}},
		{"in the place of all words", view, []impl.Put{{At: 5, Words: one}}, []impl.Put{{At: 0, Words: one}, {At: 5, Words: one}, {At: 39, Words: two}}},
		{"a new one between", view, []impl.Put{{At: 38, Words: one}}, []impl.Put{{At: 0, Words: one}, {At: 5, Words: run(7, 64)}, {At: 38, Words: one}, {At: 39, Words: two}}},
		{"without words: gone", view, []impl.Put{{At: 5}}, []impl.Put{{At: 0, Words: one}, {At: 39, Words: two}}},
		{"an empty list of words: gone", view, []impl.Put{{At: 0, Words: []int64{}}}, view[1:]},
		{"without words where nothing is", view, []impl.Put{{At: 6}}, view},
		{"all gone", view, []impl.Put{{At: 39}, {At: 0}, {At: 5}}, nil},
		{"there, then gone", view, []impl.Put{{At: 6, Words: one}, {At: 6}}, view},
		{"gone, then there", view[:1], []impl.Put{{At: 0}, {At: 0, Words: two}}, []impl.Put{{At: 0, Words: two}}},
		{"gone twice", view[:1], []impl.Put{{At: 0}, {At: 0}}, nil},
		{"the last of several", view[:1], []impl.Put{{At: 0, Words: two}, {At: 9, Words: one}, {At: 0, Words: run(3, 3)}}, []impl.Put{{At: 0, Words: run(3, 3)}, {At: 9, Words: one}}},
		{"a word 0 is a word", nil, []impl.Put{{At: 4, Words: []int64{0}}}, []impl.Put{{At: 4, Words: []int64{0}}}},
	}
	for _, c := range cases {
		wantPuts(t, c.name, impl.ApplyPuts(c.view, c.puts), c.want)
	}
}

// homePuts gives n puts of few blocks, some without words, so that one block often comes several times.
func homePuts(rnd *rand.Rand, n int, blocks int64) []impl.Put {
	var list []impl.Put
	for range n {
		list = append(list, impl.Put{At: rnd.Int63n(blocks), Words: run(rnd.Int63n(60000), rnd.Intn(3))})
	}
	return list
}

// wantLastDoes fails if what is absorbed has a block twice, or does not what all puts did.
func wantLastDoes(t *testing.T, view []impl.Put, a []impl.Put, b []impl.Put) {
	t.Helper()
	all := slices.Concat(a, b)
	r := impl.AbsorbPuts(a, b)
	wantPuts(t, "AbsorbPuts", r, plainAbsorb(all))
	wantPuts(t, "what is absorbed", impl.ApplyPuts(view, r.Puts), plainApply(view, all))
	wantPuts(t, "all puts", impl.ApplyPuts(view, all), plainApply(view, all))
	inParts := impl.ApplyPuts(impl.ApplyPuts(view, a).Puts, b)
	wantPuts(t, "a, then b", inParts, plainApply(view, all))
}

// All lists of up to three puts of two blocks, each without words or with one of its place, in a and in b at every cut.
func TestLastOfEachDoesWhatAllDid(t *testing.T) {
	views := [][]impl.Put{nil, {{At: 0, Words: []int64{9}}}, {{At: 1, Words: []int64{9}}}, {{At: 0, Words: []int64{9}}, {At: 1, Words: []int64{9}}}}
	for n := range 4 {
		eachPicks(n, func(picks []int64) {
			var all []impl.Put
			for i, pick := range picks {
				all = append(all, impl.Put{At: pick % 2, Words: run(int64(i), int(pick/2))})
			}
			for cut := range n + 1 {
				for _, view := range views {
					wantLastDoes(t, view, all[:cut], all[cut:])
				}
			}
		})
	}
}

func TestLastOfEachDoesWhatAllDidAtRandom(t *testing.T) {
	rnd := rand.New(rand.NewSource(12))
	for _, blocks := range []int64{1, 2, 5, 40} {
		for range 300 {
			n := rnd.Intn(61)
			all := homePuts(rnd, n, blocks)
			view := plainApply(nil, homePuts(rnd, rnd.Intn(60), blocks))
			cut := rnd.Intn(n + 1)
			wantLastDoes(t, view, all[:cut], all[cut:])
		}
	}
}

// On a disk as well: the batch, and the last ones of it alone, are seen the same.
func TestAbsorbedBatchIsSeenAsTheBatch(t *testing.T) {
	rnd := rand.New(rand.NewSource(13))
	for range 200 {
		d := hollowDisk(8, rnd.Int63n(24), rnd.Intn(12))
		batch := homePuts(rnd, 1+rnd.Intn(12), 6)
		few := impl.AbsorbPuts(nil, batch).Puts
		whole := mustDisk(t, impl.RunSteps(d, mustSteps(t, impl.PlanAppend(d, batch))))
		short := mustDisk(t, impl.RunSteps(d, mustSteps(t, impl.PlanAppend(d, few))))
		want := impl.ApplyPuts(impl.ViewOf(d).Puts, batch).Puts
		wantView(t, "the batch", whole, want)
		wantView(t, "the last ones", short, want)
		installed := mustDisk(t, impl.RunSteps(short, mustSteps(t, impl.PlanInstall(short))))
		wantView(t, "installed", installed, want)
	}
}

func TestSameViewsByHand(t *testing.T) {
	view := []impl.Put{{At: 0, Words: []int64{1}}, {At: 5, Words: []int64{2, 3}}}
	cases := []struct {
		name string
		a, b []impl.Put
		want bool
	}{
		{"nil and nil", nil, nil, true},
		{"nil and empty", nil, []impl.Put{}, true},
		{"no words and an empty list", []impl.Put{{At: 1}}, []impl.Put{{At: 1, Words: []int64{}}}, true},
		{"the same", view, []impl.Put{{At: 0, Words: []int64{1}}, {At: 5, Words: []int64{2, 3}}}, true},
		{"one and itself", view, view, true},
		{"one and none", view, nil, false},
		{"one without words and none", []impl.Put{{At: 0}}, nil, false},
		{"a beginning", view, view[:1], false},
		{"an end", view, view[1:], false},
		{"another block", view, []impl.Put{{At: 0, Words: []int64{1}}, {At: 6, Words: []int64{2, 3}}}, false},
		{"another first block", view, []impl.Put{{At: 1, Words: []int64{1}}, {At: 5, Words: []int64{2, 3}}}, false},
		{"another first word", view, []impl.Put{{At: 0, Words: []int64{0}}, {At: 5, Words: []int64{2, 3}}}, false},
		{"another last word", view, []impl.Put{{At: 0, Words: []int64{1}}, {At: 5, Words: []int64{2, 4}}}, false},
		{"a word fewer", view, []impl.Put{{At: 0, Words: []int64{1}}, {At: 5, Words: []int64{2}}}, false},
		{"a word 0 more", view, []impl.Put{{At: 0, Words: []int64{1, 0}}, {At: 5, Words: []int64{2, 3}}}, false},
		{"another order", view, []impl.Put{view[1], view[0]}, false},
		{"faults, the same", []impl.Put{{At: -1, Words: []int64{-1}}}, []impl.Put{{At: -1, Words: []int64{-1}}}, true},
		{"faults, another block", []impl.Put{{At: -1, Words: []int64{-1}}}, []impl.Put{{At: -2, Words: []int64{-1}}}, false},
		{"faults, another word", []impl.Put{{At: 40, Words: []int64{65536}}}, []impl.Put{{At: 40, Words: []int64{0}}}, false},
		{"a block twice", slices.Repeat(view, 2), slices.Repeat(view, 2), true},
		{"100 puts", putsAt(3, 100), putsAt(3, 100), true},
		{"100 puts and 101", putsAt(3, 100), putsAt(3, 101), false},
		{"65 words", []impl.Put{{At: 1, Words: same(1, 65)}}, []impl.Put{{At: 1, Words: same(1, 65)}}, true},
		{"65 words and 66", []impl.Put{{At: 1, Words: same(1, 65)}}, []impl.Put{{At: 1, Words: same(1, 66)}}, false},
	}
	for _, c := range cases {
		if impl.SameViews(c.a, c.b) != c.want || impl.SameViews(c.b, c.a) != c.want {
			t.Errorf("%s: not %v", c.name, c.want)
		}
	}
}
