package tests

import (
	"math"
	"math/rand"
	"slices"
	"testing"

	"loop.example/g00311/impl"
)

// Promise 1: the functions of the store in blocks answer at every argument. Here: which code, and which of two comes first.

// homeFile takes a store without a fault: the first data blocks, one behind the other, are those of its file.
func homeFile(r impl.Raft) []impl.File {
	if r.SnapIndex == 0 {
		return nil
	}
	size := int64(len(r.Snap))
	return []impl.File{fileOf(2, size, run(3, int(plainNeeds(size)))...)}
}

func homeSnap(r impl.Raft) []impl.Put {
	var h plainHomes
	for i, word := range r.Snap {
		h[3+i/8] = append(h[3+i/8], word)
	}
	return h.view()
}

// homeImage takes a store without a fault, and puts each block where the chapter says that it stands.
func homeImage(r impl.Raft) []impl.Put {
	var h plainHomes
	for _, f := range homeFile(r) {
		h[0] = []int64{1<<len(f.Blocks) - 1, 0}
		h[1] = slices.Concat([]int64{1, 2, f.Size}, f.Blocks)
	}
	h[2] = []int64{r.Term, r.Vote, r.SnapIndex, r.SnapTerm, int64(len(r.Log))}
	h.put(homeSnap(r))
	for _, e := range r.Log {
		h[24+e.Index%14] = slices.Concat([]int64{e.Index, e.Term, int64(len(e.Data))}, e.Data)
	}
	return h.view()
}

// homeViewFault asks what ApplyPuts asks of a view alone.
func homeViewFault(view []impl.Put) int64 {
	if len(view) > 60 {
		return impl.ErrMany
	}
	for _, p := range view {
		if code := firstCode(notSo(outside(p.At, 0, 39), impl.ErrRange), plainWordsFault(p.Words)); code != impl.OK {
			return code
		}
	}
	last := int64(-1)
	for _, p := range view {
		if p.At <= last || len(p.Words) == 0 {
			return impl.ErrForm
		}
		last = p.At
	}
	return impl.OK
}

// homeSnapIn reads the file word by word: any word too many, too few or other than it should be is no file.
func homeSnapIn(h plainHomes, there bool) ([]int64, bool) {
	if !there {
		return nil, len(h[0]) == 0 && len(h[1]) == 0
	}
	if len(h[1]) < 3 || h[1][2] > 40 {
		return nil, false
	}
	size := h[1][2]
	blocks := run(3, int(plainNeeds(size)))
	var words []int64
	for i, at := range blocks {
		if int64(len(h[at])) != min(8, size-8*int64(i)) {
			return nil, false
		}
		words = append(words, h[at]...)
	}
	isMap := slices.Equal(h[0], []int64{1<<len(blocks) - 1, 0})
	return words, isMap && slices.Equal(h[1], slices.Concat([]int64{1, 2, size}, blocks))
}

func homeStoreIn(h plainHomes) (impl.Raft, bool) {
	meta := h[2]
	if len(meta) != 5 || meta[4] > 14 || len(h[23])+len(h[38])+len(h[39]) > 0 {
		return impl.Raft{}, false
	}
	r := impl.Raft{Term: meta[0], Vote: meta[1], SnapIndex: meta[2], SnapTerm: meta[3]}
	ok := false
	if r.Snap, ok = homeSnapIn(h, r.SnapIndex > 0); !ok {
		return impl.Raft{}, false
	}
	for index := r.SnapIndex + 1; index <= r.SnapIndex+meta[4]; index++ {
		e, ok := plainEntryIn(h[24+index%14])
		if !ok {
			return impl.Raft{}, false
		}
		r.Log = append(r.Log, e)
	}
	return r, storeFault(r) == impl.OK
}

func homeLoad(view []impl.Put) impl.RaftResult {
	if code := homeViewFault(view); code != impl.OK {
		return impl.RaftResult{Code: code}
	}
	if len(view) == 0 {
		return impl.RaftResult{}
	}
	var h plainHomes
	h.put(view)
	r, ok := homeStoreIn(h)
	if !ok {
		return impl.RaftResult{Code: impl.ErrText}
	}
	return impl.RaftResult{Raft: r}
}

func homeDiff(view []impl.Put, image []impl.Put) impl.PutsResult {
	if code := firstCode(homeViewFault(view), homeViewFault(image)); code != impl.OK {
		return impl.PutsResult{Code: code}
	}
	var was, now plainHomes
	was.put(view)
	now.put(image)
	var puts []impl.Put
	for at := range now {
		if len(now[at]) > 0 && !slices.Equal(was[at], now[at]) {
			puts = append(puts, impl.Put{At: int64(at), Words: now[at]})
		}
	}
	for at := range 2 {
		if len(was[at]) > 0 && len(now[at]) == 0 {
			puts = append(puts, impl.Put{At: int64(at)})
		}
	}
	if len(puts) > 12 {
		return impl.PutsResult{Code: impl.ErrMany}
	}
	return impl.PutsResult{Puts: puts}
}

func wantPutsResult(t *testing.T, name string, r impl.PutsResult, want impl.PutsResult) {
	t.Helper()
	if r.Code != want.Code || !samePuts(r.Puts, want.Puts) {
		t.Fatalf("%s: %v, want %v", name, r, want)
	}
}

// wantLoad holds LoadRaft against the plain one, and tells the code.
func wantLoad(t *testing.T, name string, view []impl.Put) int64 {
	t.Helper()
	want := homeLoad(view)
	wantRaftResult(t, name, impl.LoadRaft(view), want)
	return want.Code
}

func wantDiff(t *testing.T, name string, view []impl.Put, image []impl.Put) int64 {
	t.Helper()
	want := homeDiff(view, image)
	wantPutsResult(t, name, impl.DiffPuts(view, image), want)
	return want.Code
}

func TestTheStoreInBlocksAsksTheFault(t *testing.T) {
	for _, c := range raftCases() {
		wantPutsCode(t, c.name, impl.ImageOf(c.r), c.code)
		wantFilesCode(t, c.name, impl.SnapFile(c.r), c.code)
		wantPutsCode(t, c.name, impl.SnapPuts(c.r), c.code)
		if c.code == impl.OK {
			wantImage(t, c.name, c.r)
		}
	}
}

func TestTheStoreInBlocksAsksTheFaultOfMany(t *testing.T) {
	rnd := rand.New(rand.NewSource(111))
	codes := map[int64]int{}
	for range 10000 {
		r := randomStore(rnd)
		for range rnd.Intn(4) {
			spoilStore(rnd, &r)
		}
		code := storeFault(r)
		codes[code]++
		wantPutsCode(t, "ImageOf", impl.ImageOf(r), code)
		wantFilesCode(t, "SnapFile", impl.SnapFile(r), code)
		wantPutsCode(t, "SnapPuts", impl.SnapPuts(r), code)
	}
	for _, code := range []int64{impl.OK, impl.ErrMany, impl.ErrRange, impl.ErrForm} {
		if codes[code] < 100 {
			t.Errorf("code %d came just %d times", code, codes[code])
		}
	}
}

// askedViews are views, images and puts that are no views, with the code that ApplyPuts asks of a view.
func askedViews() []putsCase {
	meta := impl.Put{At: 2, Words: []int64{3, 1, 0, 0, 0}}
	list := viewCases()
	for _, c := range manyPutsCases() {
		list = append(list, putsCase{c.name, c.puts, homeViewFault(c.puts)})
		if c.code != impl.OK {
			list = append(list, putsCase{"behind what is right: " + c.name, slices.Concat([]impl.Put{meta}, c.puts), homeViewFault(slices.Concat([]impl.Put{meta}, c.puts))})
		}
	}
	for _, c := range numberCases(0, 65535) {
		list = append(list, putsCase{"a word of the store is " + c.name, []impl.Put{{At: 2, Words: []int64{c.number, 0, 0, 0, 0}}}, c.code})
		list = append(list, putsCase{"a word that is passed over is " + c.name, []impl.Put{meta, {At: 30, Words: []int64{c.number}}}, c.code})
	}
	for _, c := range numberCases(0, 39) {
		list = append(list, putsCase{"a block is " + c.name, []impl.Put{{At: c.number, Words: []int64{1}}}, c.code})
	}
	return list
}

func TestLoadRaftAsksTheView(t *testing.T) {
	for _, c := range askedViews() {
		if c.code != impl.OK {
			wantRaftCode(t, c.name, impl.LoadRaft(c.puts), c.code)
			wantPutsCode(t, c.name, impl.ApplyPuts(c.puts, nil), c.code)
		}
		if homeViewFault(c.puts) != c.code {
			t.Errorf("%s: the plain one says %d, want %d", c.name, homeViewFault(c.puts), c.code)
		}
		wantLoad(t, c.name, c.puts)
	}
}

func TestLoadRaftCodesInTheirOrder(t *testing.T) {
	image, backwards := homeImage(knownStore()), homeImage(knownStore())
	slices.Reverse(backwards)
	meta := impl.Put{At: 2, Words: []int64{3, 1, 0, 0, 0}}
	cases := []putsCase{
		{"no puts", nil, impl.OK},
		{"an empty list", []impl.Put{}, impl.OK},
		{"an image", image, impl.OK},
		{"the block of the store alone", []impl.Put{meta}, impl.OK},
		{"60 blocks and one more", slices.Repeat([]impl.Put{meta}, 61), impl.ErrMany},
		{"many ahead of a block", slices.Repeat([]impl.Put{{At: 40}}, 61), impl.ErrMany},
		{"a block ahead of many words", []impl.Put{{At: 40, Words: same(1, 65)}}, impl.ErrRange},
		{"many words ahead of a block", []impl.Put{{At: 2, Words: same(1, 65)}, {At: 40}}, impl.ErrMany},
		{"a word ahead of what falls", []impl.Put{meta, {At: 1, Words: []int64{65536}}}, impl.ErrRange},
		{"a block ahead of one without words", []impl.Put{{At: 0}, {At: -1, Words: []int64{1}}}, impl.ErrRange},
		{"the block of the store twice", []impl.Put{meta, meta}, impl.ErrForm},
		{"the block of the store without words", []impl.Put{{At: 2}}, impl.ErrForm},
		{"a block that is passed over without words", []impl.Put{meta, {At: 30}}, impl.ErrForm},
		{"blocks that are passed over fall", []impl.Put{meta, {At: 31, Words: []int64{1}}, {At: 30, Words: []int64{1}}}, impl.ErrForm},
		{"what falls ahead of no store", []impl.Put{{At: 4, Words: []int64{1}}, {At: 3, Words: []int64{1}}}, impl.ErrForm},
		{"an image backwards", backwards, impl.ErrForm},
		{"no block of the store", []impl.Put{{At: 30, Words: []int64{1}}}, impl.ErrText},
		{"no block of the store, but a block of data", []impl.Put{{At: 3, Words: []int64{1}}}, impl.ErrText},
		{"no block of the store, but a map", []impl.Put{{At: 0, Words: []int64{0, 0}}}, impl.ErrText},
		{"no block of the store, but a map and a directory", []impl.Put{{At: 0, Words: []int64{0, 0}}, {At: 1, Words: []int64{0}}}, impl.ErrText},
		{"no block of the store, but one that none uses", []impl.Put{{At: 23, Words: []int64{1}}}, impl.ErrText},
		{"no block of the store, but one behind the slots", []impl.Put{{At: 39, Words: []int64{1}}}, impl.ErrText},
		{"a block behind the slots without words", []impl.Put{meta, {At: 39}}, impl.ErrForm},
	}
	for _, c := range cases {
		wantRaftCode(t, c.name, impl.LoadRaft(c.puts), c.code)
		wantLoad(t, c.name, c.puts)
	}
}

// All codes of view come ahead of all codes of image.
func TestDiffPutsAsksViewThenImage(t *testing.T) {
	list := askedViews()
	for _, v := range list {
		for _, i := range list {
			code := firstCode(homeViewFault(v.puts), homeViewFault(i.puts))
			if code != impl.OK {
				wantPutsCode(t, v.name+", "+i.name, impl.DiffPuts(v.puts, i.puts), code)
			}
			wantDiff(t, v.name+", "+i.name, v.puts, i.puts)
		}
	}
	word := []int64{1}
	falls, none, beyond := []impl.Put{{At: 4, Words: word}, {At: 3, Words: word}}, []impl.Put{{At: 3}}, []impl.Put{{At: 40, Words: word}}
	wantPutsCode(t, "a view that falls ahead of a block", impl.DiffPuts(falls, beyond), impl.ErrForm)
	wantPutsCode(t, "a view without words ahead of many", impl.DiffPuts(none, putsAt(3, 61)), impl.ErrForm)
	wantPutsCode(t, "a block of the view ahead of an image that falls", impl.DiffPuts(beyond, falls), impl.ErrRange)
	wantPutsCode(t, "an image that falls", impl.DiffPuts(nil, falls), impl.ErrForm)
	wantPutsCode(t, "an image without words", impl.DiffPuts(nil, none), impl.ErrForm)
	wantPutsCode(t, "an image without words where the view has none", impl.DiffPuts(falls[:1], none), impl.ErrForm)
	wantPutsCode(t, "a block twice in the image", impl.DiffPuts(nil, []impl.Put{{At: 3, Words: word}, {At: 3, Words: word}}), impl.ErrForm)
	whole := viewCases()[4].puts
	wantPutsCode(t, "a fault of the image ahead of too many", impl.DiffPuts(nil, append(slices.Clone(whole), falls...)), impl.ErrForm)
	wantPutsCode(t, "a fault of the view ahead of too many", impl.DiffPuts(falls, whole), impl.ErrForm)
}

// Of views of n blocks, all of which differ: at most 12 may, those that are taken away counted as well.
func TestDiffPutsCountsWhatDiffers(t *testing.T) {
	blocks := func(first int64, n int, word int64) []impl.Put {
		var list []impl.Put
		for i := range int64(n) {
			list = append(list, impl.Put{At: first + i, Words: []int64{word}})
		}
		return list
	}
	for n := range 38 {
		image := blocks(2, n, 1)
		for gone := range 3 {
			other := append(blocks(0, gone, 7), blocks(2, n, 2)...)
			code := notSo(n+gone > 12, impl.ErrMany)
			wantPutsCode(t, "all differ", impl.DiffPuts(other, image), code)
			wantPutsCode(t, "all are new", impl.DiffPuts(blocks(0, gone, 7), image), code)
			wantPutsCode(t, "none differs", impl.DiffPuts(append(blocks(0, gone, 7), image...), image), impl.OK)
			wantDiff(t, "all differ", other, image)
			wantDiff(t, "all are new", blocks(0, gone, 7), image)
			wantDiff(t, "none is left", other, nil)
		}
	}
	wantPutsCode(t, "12 of 40 differ", impl.DiffPuts(blocks(0, 40, 1), append(blocks(0, 28, 1), blocks(28, 12, 2)...)), impl.OK)
	wantPutsCode(t, "13 of 40 differ", impl.DiffPuts(blocks(0, 40, 1), append(blocks(0, 27, 1), blocks(27, 13, 2)...)), impl.ErrMany)
	wantPutsCode(t, "40 of 40 differ", impl.DiffPuts(blocks(0, 40, 1), blocks(0, 40, 2)), impl.ErrMany)
}

func TestNilAndEmptyAreTheSameToTheStoreInBlocks(t *testing.T) {
	bare, one := impl.Raft{Snap: []int64{}, Log: []impl.Entry{}}, impl.Raft{Term: 3, Log: []impl.Entry{{Index: 1, Term: 3, Data: []int64{}}}}
	wantPuts(t, "ImageOf", impl.ImageOf(bare), impl.ImageOf(impl.Raft{}).Puts)
	wantPuts(t, "ImageOf without data", impl.ImageOf(one), impl.ImageOf(impl.Raft{Term: 3, Log: hollowLog(1, 1)}).Puts)
	wantFiles(t, "SnapFile", impl.SnapFile(bare), nil)
	wantPuts(t, "SnapPuts", impl.SnapPuts(bare), nil)
	wantRaft(t, "LoadRaft", impl.LoadRaft([]impl.Put{}), impl.LoadRaft(nil).Raft)
	view := []impl.Put{{At: 0, Words: []int64{1}}}
	wantPuts(t, "DiffPuts of no view", impl.DiffPuts([]impl.Put{}, view), impl.DiffPuts(nil, view).Puts)
	wantPuts(t, "DiffPuts of no image", impl.DiffPuts(view, []impl.Put{}), impl.DiffPuts(view, nil).Puts)
	wantPuts(t, "DiffPuts of nothing", impl.DiffPuts([]impl.Put{}, []impl.Put{}), nil)
	empty := impl.Raft{Term: 3, SnapIndex: 1, SnapTerm: 1, Snap: []int64{}}
	wantPuts(t, "ImageOf a snapshot without words", impl.ImageOf(empty), homeImage(empty))
}

func TestTheStoreInBlocksOfExtremeNumbers(t *testing.T) {
	for _, n := range []int64{math.MinInt64, math.MinInt64 + 1, -1, 65536, 1 << 32, math.MaxInt64} {
		wantPutsCode(t, "ImageOf", impl.ImageOf(extremeStore(n)), impl.ErrRange)
		wantFilesCode(t, "SnapFile", impl.SnapFile(extremeStore(n)), impl.ErrRange)
		wantPutsCode(t, "SnapPuts", impl.SnapPuts(extremeStore(n)), impl.ErrRange)
		for at := range int64(40) {
			words := []impl.Put{{At: at, Words: []int64{1, n}}}
			wantRaftCode(t, "a word", impl.LoadRaft(words), impl.ErrRange)
			wantPutsCode(t, "a word of the view", impl.DiffPuts(words, nil), impl.ErrRange)
			wantPutsCode(t, "a word of the image", impl.DiffPuts(nil, words), impl.ErrRange)
		}
		block := []impl.Put{{At: n, Words: []int64{1}}}
		wantRaftCode(t, "a block", impl.LoadRaft(block), impl.ErrRange)
		wantPutsCode(t, "a block of the view", impl.DiffPuts(block, nil), impl.ErrRange)
		wantPutsCode(t, "a block of the image", impl.DiffPuts(nil, block), impl.ErrRange)
	}
}
