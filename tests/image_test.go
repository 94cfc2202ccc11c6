package tests

import (
	"math/rand"
	"slices"
	"testing"

	"loop.example/g00311/impl"
)

// Promise 12: a store is loaded from its blocks as it is, whatever stands in blocks that it does not use; whatever stands in blocks, what is loaded is right; what differs, put over what is there, leads to the store that is meant.

// wantImage takes a store without a fault, and asks its file, its blocks, and that it is loaded from them.
func wantImage(t *testing.T, name string, r impl.Raft) {
	t.Helper()
	wantFiles(t, name, impl.SnapFile(r), homeFile(r))
	wantPuts(t, name, impl.SnapPuts(r), homeSnap(r))
	image := impl.ImageOf(r)
	wantPuts(t, name, image, homeImage(r))
	wantRaft(t, name, impl.LoadRaft(image.Puts), r)
	wantPuts(t, name+", what differs from itself", impl.DiffPuts(image.Puts, image.Puts), nil)
	if !impl.SameViews(impl.ApplyPuts(image.Puts, nil).Puts, image.Puts) {
		t.Errorf("%s: the image is no view", name)
	}
}

// sizedStore has a snapshot of so many words at snap (0: none), and so many entries, of no data up to six words.
func sizedStore(snap int64, words int, entries int) impl.Raft {
	r := impl.Raft{Term: 9, Vote: 4, SnapIndex: snap}
	if snap > 0 {
		r.SnapTerm, r.Snap = 2, run(100, words)
	}
	for i := range int64(entries) {
		r.Log = append(r.Log, entryOf(snap+1+i, 3+i/3, run(10*i, int(i%7))...))
	}
	return r
}

// edgeStores are those whose edges the document names: no snapshot and no entries, each size of a file at its blocks' ends, slots that go round.
func edgeStores() []impl.Raft {
	list := []impl.Raft{{}, {Vote: 9}, {Term: 999, Vote: 9}, knownStore()}
	for _, entries := range []int{0, 1, 2, 13, 14} {
		list = append(list, sizedStore(0, 0, entries))
		for _, words := range []int{0, 1, 7, 8, 9, 16, 39, 40} {
			list = append(list, sizedStore(11, words, entries))
		}
		list = append(list, sizedStore(9999-int64(entries), 17, entries))
	}
	return list
}

func TestPlacesOfTheStore(t *testing.T) {
	if impl.MapAt != 0 || impl.DirAt != 1 || impl.MetaAt != 2 || impl.SnapName != 2 {
		t.Error("a place or the name of the snapshot is another")
	}
}

func TestImageOfByHand(t *testing.T) {
	cases := []struct {
		name string
		r    impl.Raft
		want []impl.Put
	}{
		{"the zero value", impl.Raft{}, []impl.Put{
			{At: 2, Words: []int64{0, 0, 0, 0, 0}}}},
		{"a term and a vote", impl.Raft{Term: 7, Vote: 3}, []impl.Put{
			{At: 2, Words: []int64{7, 3, 0, 0, 0}}}},
		{"an entry without data", impl.Raft{Term: 7, Log: []impl.Entry{entryOf(1, 5)}}, []impl.Put{
			{At: 2, Words: []int64{7, 0, 0, 0, 1}}, {At: 25, Words: []int64{1, 5, 0}}}},
		{"an entry of six words", impl.Raft{Term: 7, Log: []impl.Entry{entryOf(1, 5, 9, 8, 7, 6, 5, 4)}}, []impl.Put{
			{At: 2, Words: []int64{7, 0, 0, 0, 1}}, {At: 25, Words: []int64{1, 5, 6, 9, 8, 7, 6, 5, 4}}}},
		{"a snapshot without words", impl.Raft{Term: 7, SnapIndex: 6, SnapTerm: 5}, []impl.Put{
			{At: 0, Words: []int64{0, 0}}, {At: 1, Words: []int64{1, 2, 0}}, {At: 2, Words: []int64{7, 0, 6, 5, 0}}}},
		{"a snapshot of one word", impl.Raft{Term: 7, SnapIndex: 6, SnapTerm: 5, Snap: []int64{0}}, []impl.Put{
			{At: 0, Words: []int64{1, 0}}, {At: 1, Words: []int64{1, 2, 1, 3}}, {At: 2, Words: []int64{7, 0, 6, 5, 0}}, {At: 3, Words: []int64{0}}}},
		{"a snapshot of 8 words", impl.Raft{Term: 7, SnapIndex: 6, SnapTerm: 5, Snap: run(1, 8)}, []impl.Put{
			{At: 0, Words: []int64{1, 0}}, {At: 1, Words: []int64{1, 2, 8, 3}}, {At: 2, Words: []int64{7, 0, 6, 5, 0}}, {At: 3, Words: run(1, 8)}}},
		{"a snapshot of 9 words", impl.Raft{Term: 7, SnapIndex: 6, SnapTerm: 5, Snap: run(1, 9)}, []impl.Put{
			{At: 0, Words: []int64{3, 0}}, {At: 1, Words: []int64{1, 2, 9, 3, 4}}, {At: 2, Words: []int64{7, 0, 6, 5, 0}}, {At: 3, Words: run(1, 8)}, {At: 4, Words: []int64{9}}}},
		{"a snapshot of 40 words", impl.Raft{Term: 7, SnapIndex: 6, SnapTerm: 5, Snap: run(1, 40)}, []impl.Put{
			{At: 0, Words: []int64{31, 0}}, {At: 1, Words: []int64{1, 2, 40, 3, 4, 5, 6, 7}}, {At: 2, Words: []int64{7, 0, 6, 5, 0}},
			{At: 3, Words: run(1, 8)}, {At: 4, Words: run(9, 8)}, {At: 5, Words: run(17, 8)}, {At: 6, Words: run(25, 8)}, {At: 7, Words: run(33, 8)}}},
		{"slots that go round", impl.Raft{Term: 7, SnapIndex: 11, SnapTerm: 5, Log: []impl.Entry{entryOf(12, 5, 1), entryOf(13, 5, 2), entryOf(14, 6, 3), entryOf(15, 7)}}, []impl.Put{
			{At: 0, Words: []int64{0, 0}}, {At: 1, Words: []int64{1, 2, 0}}, {At: 2, Words: []int64{7, 0, 11, 5, 4}},
			{At: 24, Words: []int64{14, 6, 1, 3}}, {At: 25, Words: []int64{15, 7, 0}}, {At: 36, Words: []int64{12, 5, 1, 1}}, {At: 37, Words: []int64{13, 5, 1, 2}}}},
		{"the known one", knownStore(), []impl.Put{
			{At: 0, Words: []int64{1, 0}}, {At: 1, Words: []int64{1, 2, 2, 3}}, {At: 2, Words: []int64{6, 2, 3, 2, 4}}, {At: 3, Words: []int64{7, 8}},
			{At: 28, Words: []int64{4, 2, 1, 40}}, {At: 29, Words: []int64{5, 3, 0}}, {At: 30, Words: []int64{6, 3, 2, 60, 61}}, {At: 31, Words: []int64{7, 5, 1, 70}}}},
	}
	for _, c := range cases {
		wantPuts(t, c.name, impl.ImageOf(c.r), c.want)
		wantRaft(t, c.name, impl.LoadRaft(c.want), c.r)
		wantImage(t, c.name, c.r)
	}
}

func TestSnapFileAndSnapPutsByHand(t *testing.T) {
	cases := []struct {
		words int
		file  impl.File
		puts  []impl.Put
	}{
		{0, fileOf(2, 0), nil},
		{1, fileOf(2, 1, 3), []impl.Put{{At: 3, Words: run(5, 1)}}},
		{7, fileOf(2, 7, 3), []impl.Put{{At: 3, Words: run(5, 7)}}},
		{8, fileOf(2, 8, 3), []impl.Put{{At: 3, Words: run(5, 8)}}},
		{9, fileOf(2, 9, 3, 4), []impl.Put{{At: 3, Words: run(5, 8)}, {At: 4, Words: run(13, 1)}}},
		{16, fileOf(2, 16, 3, 4), []impl.Put{{At: 3, Words: run(5, 8)}, {At: 4, Words: run(13, 8)}}},
		{17, fileOf(2, 17, 3, 4, 5), []impl.Put{{At: 3, Words: run(5, 8)}, {At: 4, Words: run(13, 8)}, {At: 5, Words: run(21, 1)}}},
		{39, fileOf(2, 39, 3, 4, 5, 6, 7), []impl.Put{{At: 3, Words: run(5, 8)}, {At: 4, Words: run(13, 8)}, {At: 5, Words: run(21, 8)}, {At: 6, Words: run(29, 8)}, {At: 7, Words: run(37, 7)}}},
		{40, fileOf(2, 40, 3, 4, 5, 6, 7), []impl.Put{{At: 3, Words: run(5, 8)}, {At: 4, Words: run(13, 8)}, {At: 5, Words: run(21, 8)}, {At: 6, Words: run(29, 8)}, {At: 7, Words: run(37, 8)}}},
	}
	for _, c := range cases {
		r := impl.Raft{Term: 3, SnapIndex: 20, SnapTerm: 3, Snap: run(5, c.words), Log: hollowLog(21, 2)}
		wantFiles(t, "SnapFile", impl.SnapFile(r), []impl.File{c.file})
		wantPuts(t, "SnapPuts", impl.SnapPuts(r), c.puts)
	}
	none := impl.Raft{Term: 3, Vote: 1, Log: hollowLog(1, 14)}
	wantFiles(t, "SnapFile without a snapshot", impl.SnapFile(none), nil)
	wantPuts(t, "SnapPuts without a snapshot", impl.SnapPuts(none), nil)
}

func TestImageOfEachSize(t *testing.T) {
	for entries := range 15 {
		for words := range 41 {
			for _, snap := range []int64{1, 10, 13, 9985} {
				wantImage(t, "of each size", sizedStore(snap, words, entries))
			}
		}
		wantImage(t, "without a snapshot", sizedStore(0, 0, entries))
	}
}

// Logs that begin at each place of the slots, and at the end of all indexes.
func TestImageOfSlotsThatGoRound(t *testing.T) {
	for snap := range int64(30) {
		for entries := range 15 {
			wantImage(t, "going round", sizedStore(snap, 3, entries))
			wantImage(t, "at the end", sizedStore(9985-snap, 3, entries))
		}
	}
}

func TestImageOfManyStores(t *testing.T) {
	rnd := rand.New(rand.NewSource(112))
	for range 3000 {
		wantImage(t, "at random", randomStore(rnd))
	}
	for _, r := range slices.Concat(smallStores(), edgeStores()) {
		wantImage(t, "of a few", r)
	}
}

func TestTheFirstStore(t *testing.T) {
	wantRaft(t, "of no blocks", impl.LoadRaft(nil), impl.Raft{})
	first := impl.ImageOf(impl.Raft{}).Puts
	wantPuts(t, "what differs from nothing", impl.DiffPuts(nil, first), []impl.Put{{At: 2, Words: same(0, 5)}})
	wantRaft(t, "of its block", impl.LoadRaft(first), impl.Raft{})
	for _, r := range slices.Concat(smallStores(), edgeStores()) {
		image := impl.ImageOf(r).Puts
		code := wantDiff(t, "from nothing", nil, image)
		if code == impl.OK {
			wantRaft(t, "from nothing", impl.LoadRaft(impl.ApplyPuts(nil, impl.DiffPuts(nil, image).Puts).Puts), r)
		}
	}
}

// passedOver tells the blocks of which a store takes nothing, whatever stands there.
func passedOver(r impl.Raft) []int64 {
	var h plainHomes
	h.put(homeImage(r))
	var list []int64
	for at := range int64(40) {
		if len(h[at]) == 0 && (at >= 3 && at <= 22 || at >= 24 && at <= 37) {
			list = append(list, at)
		}
	}
	return list
}

// strayWords are such as an earlier store left there, such as a later one would write, and such as no store has.
func strayWords(r impl.Raft, at int64) [][]int64 {
	list := [][]int64{{0}, {65535}, {1, 2, 0}, run(1, 8), run(1, 9), same(7, 64)}
	for index := lastIndex(r) - 16; index <= lastIndex(r)+16; index++ {
		if index > 0 && 24+index%14 == at {
			list = append(list, []int64{index, r.Term, 0}, []int64{index, 3, 1, 5})
		}
	}
	return list
}

func TestWhateverStandsInBlocksThatAreNotUsed(t *testing.T) {
	for _, r := range edgeStores() {
		var all plainHomes
		all.put(homeImage(r))
		for _, at := range passedOver(r) {
			for _, words := range strayWords(r, at) {
				var h plainHomes
				h.put(homeImage(r))
				h[at], all[at] = words, words
				wantRaft(t, "one block", impl.LoadRaft(h.view()), r)
				wantRaft(t, "more and more blocks", impl.LoadRaft(all.view()), r)
			}
		}
	}
}

// All blocks of one store that another one does not use are left there.
func TestBlocksOfAnEarlierStoreArePassedOver(t *testing.T) {
	stores := edgeStores()
	for _, was := range stores {
		for _, now := range stores {
			var h plainHomes
			h.put(homeImage(was))
			h[0], h[1] = nil, nil
			h.put(homeImage(now))
			wantRaft(t, "over an earlier one", impl.LoadRaft(h.view()), now)
		}
	}
}

// Block 23 is between data and slots, and 38 and 39 are behind the last slot.
func TestBlocksThatNoStoreUses(t *testing.T) {
	for _, r := range slices.Concat(smallStores(), edgeStores()) {
		for at, code := range map[int64]int64{22: impl.OK, 23: impl.ErrText, 38: impl.ErrText, 39: impl.ErrText} {
			for _, words := range [][]int64{{0}, {1, 2, 0}, same(9, 64)} {
				var h plainHomes
				h.put(homeImage(r))
				h[at] = words
				wantRaftCode(t, "a block that is not used", impl.LoadRaft(h.view()), code)
				wantLoad(t, "a block that is not used", h.view())
			}
		}
	}
}

// From EntriesAt on a block is passed over where an index has its slot, and there alone.
func TestOnlySlotsOfEntriesArePassedOver(t *testing.T) {
	slots := map[int64]bool{}
	for index := range int64(9999) {
		slots[impl.SlotFor(index+1).Value] = true
	}
	bare := impl.Raft{Term: 1}
	whole := impl.Raft{Term: 3, Vote: 2, SnapIndex: 3, SnapTerm: 3, Snap: []int64{94, 14, 17, 1, 42, 64, 68, 9, 37, 80}}
	whole.Log = []impl.Entry{entryOf(4, 3, 59, 46, 81), entryOf(5, 3, 46, 83)}
	for _, r := range []impl.Raft{bare, whole} {
		image := homeImage(r)
		for at := int64(24); at < 40; at++ {
			if slices.ContainsFunc(image, func(p impl.Put) bool { return p.At == at }) {
				continue
			}
			want := impl.RaftResult{Code: impl.ErrText}
			if slots[at] {
				want = impl.RaftResult{Raft: r}
			}
			wantRaftResult(t, "a block from EntriesAt on", impl.LoadRaft(withBlock(image, at, []int64{1, 1, 0})), want)
		}
	}
}

func TestWithoutAFileThereIsNoMapAndNoDirectory(t *testing.T) {
	for _, r := range []impl.Raft{{}, {Term: 3, Vote: 1}, sizedStore(0, 0, 1), sizedStore(0, 0, 14)} {
		for _, words := range [][]int64{{0}, {0, 0}, {1, 0}, {1, 2, 0}, {1, 2, 1, 3}} {
			for _, puts := range [][]impl.Put{{{At: 0, Words: words}}, {{At: 1, Words: words}}, {{At: 0, Words: []int64{0, 0}}, {At: 1, Words: words}}} {
				wantRaftCode(t, "a map or a directory", impl.LoadRaft(plainApply(homeImage(r), puts)), impl.ErrText)
			}
		}
	}
}

// withBlock is the view with other words in one block, or without it.
func withBlock(view []impl.Put, at int64, words []int64) []impl.Put {
	return plainApply(view, []impl.Put{{At: at, Words: words}})
}

// otherWords are the words with one of them gone, more or another one; the first so many lists are of another length.
func otherWords(words []int64) (lists [][]int64, lengths int) {
	lists = append(lists, words[1:], words[:len(words)-1], append(slices.Clone(words), 0), append(slices.Clone(words), 1), append([]int64{0}, words...))
	lengths = len(lists)
	for i, word := range words {
		for _, other := range []int64{0, 1, 2, word - 1, word + 1, word + 14, 1000, 9999, 10000, 65535} {
			if other != word && other >= 0 && other <= 65535 {
				list := slices.Clone(words)
				list[i] = other
				lists = append(lists, list)
			}
		}
	}
	return lists, lengths
}

func TestEachUsedBlockCounts(t *testing.T) {
	codes := map[int64]int{}
	for _, r := range edgeStores() {
		image := homeImage(r)
		for _, p := range image {
			gone := withBlock(image, p.At, nil)
			if len(gone) > 0 {
				wantRaftCode(t, "a block is gone", impl.LoadRaft(gone), impl.ErrText)
			}
			lists, lengths := otherWords(p.Words)
			for i, words := range lists {
				spoilt := withBlock(image, p.At, words)
				code := wantLoad(t, "another word", spoilt)
				codes[code]++
				if (i < lengths || p.At < 2) && len(words) > 0 && code != impl.ErrText {
					t.Fatalf("block %d of %v has %v, and there is code %d", p.At, image, words, code)
				}
				wantRight(t, spoilt)
			}
		}
	}
	if codes[impl.OK] < 500 || codes[impl.ErrText] < 5000 {
		t.Error(codes)
	}
}

// Words that would make a store with a fault are those of none.
func TestWordsOfAStoreWithAFault(t *testing.T) {
	for _, meta := range [][]int64{
		{1000, 0, 0, 0, 0}, {3, 10, 0, 0, 0}, {3, 0, 10000, 1, 0}, {3, 0, 5, 4, 0}, {3, 0, 0, 1, 0}, {3, 0, 5, 0, 0},
		{3, 0, 0, 0, 1}, {3, 0, 0, 0, 14}, {3, 0, 0, 0, 15}, {3, 0, 0, 0, 65535}, {3, 0, 9999, 1, 1}, {65535, 65535, 65535, 65535, 65535},
		{0}, {3, 1}, {3, 1, 0, 0}, {3, 1, 0, 0, 0, 0}, same(0, 64),
	} {
		view := []impl.Put{{At: 2, Words: meta}}
		wantRaftCode(t, "no file", impl.LoadRaft(view), impl.ErrText)
		file := []impl.Put{{At: 0, Words: []int64{0, 0}}, {At: 1, Words: []int64{1, 2, 0}}}
		wantRaftCode(t, "a file", impl.LoadRaft(append(file, view...)), impl.ErrText)
	}
	entry := func(words ...int64) []impl.Put {
		return []impl.Put{{At: 2, Words: []int64{3, 0, 0, 0, 1}}, {At: 25, Words: words}}
	}
	wantRaft(t, "an entry", impl.LoadRaft(entry(1, 3, 0)), impl.Raft{Term: 3, Log: hollowLog(1, 1)})
	for _, words := range [][]int64{{1, 4, 0}, {1, 0, 0}, {2, 3, 0}, {15, 3, 0}, {0, 3, 0}, {1, 3}, {1, 3, 1}, {1, 3, 0, 0}, {1, 3, 7, 1, 2, 3, 4, 5, 6, 7}} {
		wantRaftCode(t, "no entry", impl.LoadRaft(entry(words...)), impl.ErrText)
	}
}

// Files that have no fault and are not the store's: another name, another block, a second one, none.
func TestFilesOfNoStore(t *testing.T) {
	r := impl.Raft{Term: 7, SnapIndex: 6, SnapTerm: 5, Snap: []int64{4, 9}}
	for _, files := range [][]impl.File{
		{}, {fileOf(1, 2, 3)}, {fileOf(3, 2, 3)}, {fileOf(2, 2, 4)}, {fileOf(2, 1, 3)}, {fileOf(2, 3, 3)},
		{fileOf(2, 9, 3, 4)}, {fileOf(2, 9, 4, 3)}, {fileOf(1, 0), fileOf(2, 2, 3)}, {fileOf(2, 2, 3), fileOf(3, 8, 4)}, {fileOf(1, 1, 3), fileOf(2, 1, 4)},
	} {
		for _, used := range [][]int64{{3}, impl.BlocksIn(files).List} {
			puts := []impl.Put{{At: 0, Words: impl.PackMap(used).List}, {At: 1, Words: impl.PackDir(files).List}, {At: 4, Words: []int64{4, 9}}}
			wantRaftCode(t, "of no store", impl.LoadRaft(plainApply(homeImage(r), puts)), impl.ErrText)
		}
	}
	empty := []impl.Put{{At: 0, Words: []int64{0, 0}}, {At: 1, Words: []int64{1, 2, 0}}}
	wantRaft(t, "a file without words passes over block 3", impl.LoadRaft(plainApply(homeImage(r), empty)), impl.Raft{Term: 7, SnapIndex: 6, SnapTerm: 5})
	twoBlocks := impl.Raft{Term: 7, SnapIndex: 6, SnapTerm: 5, Snap: run(1, 12)}
	for n := range 13 {
		puts := []impl.Put{{At: 3, Words: run(1, n)}, {At: 4, Words: run(1+int64(n), 12-n)}}
		wantRaftCode(t, "cut at another word", impl.LoadRaft(plainApply(homeImage(twoBlocks), puts)), notSo(n != 8, impl.ErrText))
	}
}

// wantRight asks that what is loaded has no fault, and that its blocks are there.
func wantRight(t *testing.T, view []impl.Put) {
	t.Helper()
	r := impl.LoadRaft(view)
	if r.Code != impl.OK || len(view) == 0 {
		return
	}
	image := impl.ImageOf(r.Raft)
	if impl.RaftFault(r.Raft) != impl.OK || image.Code != impl.OK {
		t.Fatalf("%v: %v has a fault", view, r.Raft)
	}
	if !samePuts(plainApply(view, image.Puts), view) {
		t.Fatalf("%v: the blocks of %v are not there", view, r.Raft)
	}
	wantPuts(t, "nothing differs", impl.DiffPuts(view, image.Puts), nil)
}

// All views of a few words in each block: each is loaded as the plain one says, and what is loaded is right.
func TestAllSmallViews(t *testing.T) {
	meta := [][]int64{nil, {1}, {1, 0, 0, 0}, {1, 0, 0, 0, 0, 0}}
	for i := range int64(162) {
		meta = append(meta, []int64{i / 54 % 3, i / 27 % 2, i / 9 % 3, i / 3 % 3, i % 3})
	}
	loaded := 0
	for _, m := range meta {
		for _, bits := range [][]int64{nil, {0, 0}, {1, 0}} {
			for _, dir := range [][]int64{nil, {0}, {1, 2, 0}, {1, 2, 1, 3}} {
				for _, data := range [][]int64{nil, {5}, {5, 6}} {
					for _, slots := range [][2][]int64{{}, {{1, 1, 0}, {2, 1, 0}}, {{1, 1, 1, 7}, {2, 2, 0}}, {{15, 1, 0}, {2, 1, 1, 7}}, {nil, {3, 2, 0}}} {
						h := plainHomes{0: bits, 1: dir, 2: m, 3: data, 25: slots[0], 26: slots[1], 27: {3, 2, 0}}
						if wantLoad(t, "a small one", h.view()) == impl.OK {
							loaded++
						}
					}
				}
			}
		}
	}
	if loaded < 300 {
		t.Errorf("just %d were loaded", loaded)
	}
}

// spoilView changes a block to other words, to those of another store, or takes it away.
func spoilView(rnd *rand.Rand, view []impl.Put, other []impl.Put) []impl.Put {
	var h, from plainHomes
	h.put(view)
	from.put(other)
	at := []int{rnd.Intn(40), rnd.Intn(3), 3 + rnd.Intn(5), 24 + rnd.Intn(14)}[rnd.Intn(4)]
	switch rnd.Intn(4) {
	case 0:
		h[at] = from[at]
	case 1:
		h[at] = nil
	default:
		if len(h[at]) > 0 {
			lists, _ := otherWords(h[at])
			h[at] = lists[rnd.Intn(len(lists))]
		}
	}
	return h.view()
}

func TestWhateverStandsInBlocksWhatIsLoadedIsRight(t *testing.T) {
	rnd := rand.New(rand.NewSource(113))
	codes := map[int64]int{}
	for range 20000 {
		r := randomStore(rnd)
		view := homeImage(r)
		for _, at := range passedOver(r) {
			if rnd.Intn(3) == 0 {
				view = withBlock(view, at, run(rnd.Int63n(9), 1+rnd.Intn(9)))
			}
		}
		wantRaft(t, "at random", impl.LoadRaft(view), r)
		for range rnd.Intn(4) {
			view = spoilView(rnd, view, homeImage(randomStore(rnd)))
		}
		codes[wantLoad(t, "at random", view)]++
		wantRight(t, view)
	}
	if codes[impl.OK] < 3000 || codes[impl.ErrText] < 3000 {
		t.Error(codes)
	}
}

func TestDiffPutsByHand(t *testing.T) {
	a, b, c := []int64{1}, []int64{2}, []int64{1, 0}
	whole := []impl.Put{{At: 0, Words: a}, {At: 1, Words: a}, {At: 2, Words: a}, {At: 3, Words: a}, {At: 30, Words: a}}
	cases := []struct {
		name  string
		view  []impl.Put
		image []impl.Put
		want  []impl.Put
	}{
		{"nothing", nil, nil, nil},
		{"the same", whole, whole, nil},
		{"all of it", nil, whole, whole},
		{"one differs", whole, withBlock(whole, 3, b), []impl.Put{{At: 3, Words: b}}},
		{"one has a word more", whole, withBlock(whole, 3, c), []impl.Put{{At: 3, Words: c}}},
		{"one has a word fewer", withBlock(whole, 3, c), whole, []impl.Put{{At: 3, Words: a}}},
		{"one is new", withBlock(whole, 3, nil), whole, []impl.Put{{At: 3, Words: a}}},
		{"the words of another block", []impl.Put{{At: 4, Words: b}}, []impl.Put{{At: 5, Words: b}}, []impl.Put{{At: 5, Words: b}}},
		{"all is gone", whole, nil, []impl.Put{{At: 0}, {At: 1}}},
		{"the map is gone", whole, withBlock(whole, 0, nil), []impl.Put{{At: 0}}},
		{"the directory is gone", whole, withBlock(whole, 1, nil), []impl.Put{{At: 1}}},
		{"the store's block is gone", whole, withBlock(whole, 2, nil), nil},
		{"data is gone", whole, withBlock(whole, 3, nil), nil},
		{"an entry is gone", whole, withBlock(whole, 30, nil), nil},
		{"neither has a map", whole[2:], withBlock(whole[2:], 3, b), []impl.Put{{At: 3, Words: b}}},
		{"what is gone stands behind", whole, []impl.Put{{At: 2, Words: b}, {At: 30, Words: b}}, []impl.Put{{At: 2, Words: b}, {At: 30, Words: b}, {At: 0}, {At: 1}}},
		{"the directory is gone, the map differs", whole, []impl.Put{{At: 0, Words: b}, {At: 2, Words: a}}, []impl.Put{{At: 0, Words: b}, {At: 1}}},
		{"the map is gone, the directory differs", whole, []impl.Put{{At: 1, Words: b}, {At: 2, Words: a}}, []impl.Put{{At: 1, Words: b}, {At: 0}}},
	}
	for _, c := range cases {
		wantPuts(t, c.name, impl.DiffPuts(c.view, c.image), c.want)
		wantDiff(t, c.name, c.view, c.image)
	}
}

// wantLeadsTo puts what differs over what is there: it is loaded as the store that is meant, and nothing differs any more.
func wantLeadsTo(t *testing.T, view []impl.Put, meant impl.Raft) ([]impl.Put, int64) {
	t.Helper()
	image := impl.ImageOf(meant).Puts
	code := wantDiff(t, "what differs", view, image)
	if code != impl.OK {
		return view, code
	}
	next := impl.ApplyPuts(view, impl.DiffPuts(view, image).Puts)
	if next.Code != impl.OK {
		t.Fatalf("code %d over %v", next.Code, view)
	}
	wantRaft(t, "what is meant", impl.LoadRaft(next.Puts), meant)
	wantPuts(t, "nothing differs any more", impl.DiffPuts(next.Puts, image), nil)
	return next.Puts, code
}

func TestFromEachStoreToEach(t *testing.T) {
	codes := map[int64]int{}
	for _, stores := range [][]impl.Raft{smallStores(), edgeStores()} {
		for _, was := range stores {
			view := homeImage(was)
			for _, now := range stores {
				_, code := wantLeadsTo(t, view, now)
				codes[code]++
			}
		}
	}
	if codes[impl.OK] < 20000 || codes[impl.ErrMany] < 100 {
		t.Error(codes)
	}
}

// From the first store on, what each one left stays where the next one does not write.
func TestManyStoresOneOverAnother(t *testing.T) {
	rnd := rand.New(rand.NewSource(114))
	codes := map[int64]int{}
	for range 60 {
		view, code := []impl.Put(nil), int64(0)
		for range 30 {
			view, code = wantLeadsTo(t, view, randomStore(rnd))
			codes[code]++
		}
		r := impl.LoadRaft(view).Raft
		for range 60 {
			r = randomStep(t, rnd, r, map[int64]int{})
			view, code = wantLeadsTo(t, view, r)
			r = impl.LoadRaft(view).Raft
			codes[code]++
		}
	}
	if codes[impl.OK] < 2000 || codes[impl.ErrMany] < 100 {
		t.Error(codes)
	}
}
