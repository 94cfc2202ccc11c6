package tests

import (
	"math"
	"testing"

	"loop.example/g00311/impl"
)

// Promise 1: the functions of the store in blocks change no argument, their answers are new memory and hang on the arguments alone.

type imageArgs struct {
	Raft  impl.Raft
	View  []impl.Put
	Image []impl.Put
}

func imageArgsList() []imageArgs {
	stores := []impl.Raft{
		{},
		{Term: 3, Vote: 1},
		knownStore(),
		sizedStore(0, 0, 14),
		sizedStore(11, 0, 5),
		sizedStore(11, 9, 2),
		sizedStore(11, 40, 0),
		sizedStore(12, 40, 14),
		{Term: 3, Snap: []int64{5}},
		extremeStore(math.MinInt64),
	}
	views := [][]impl.Put{
		nil,
		withBlock(homeImage(knownStore()), 20, run(1, 64)),
		withBlock(homeImage(knownStore()), 23, run(1, 64)),
		{{At: 0, Words: run(1, 64)}, {At: 1, Words: run(5, 2)}, {At: 39, Words: run(1, 3)}},
		{{At: 4, Words: run(1, 2)}, {At: 3, Words: run(1, 2)}},
		{{At: 3, Words: []int64{65536}}},
		putsAt(3, 61),
	}
	for _, r := range stores[:8] {
		views = append(views, homeImage(r))
	}
	var list []imageArgs
	for i, view := range views {
		for k, image := range views {
			list = append(list, imageArgs{stores[(i+k)%len(stores)], view, image})
		}
	}
	return list
}

func imageCalls() []namedCall[imageArgs] {
	return []namedCall[imageArgs]{
		{"ImageOf", func(a imageArgs) any { return impl.ImageOf(a.Raft) }},
		{"LoadRaft", func(a imageArgs) any { return impl.LoadRaft(a.View) }},
		{"DiffPuts", func(a imageArgs) any { return impl.DiffPuts(a.View, a.Image) }},
		{"SnapFile", func(a imageArgs) any { return impl.SnapFile(a.Raft) }},
		{"SnapPuts", func(a imageArgs) any { return impl.SnapPuts(a.Raft) }},
	}
}

func TestImageCallsKeepToTheirArguments(t *testing.T) {
	wantCallsApart(t, imageCalls(), imageArgsList())
}

// Lists that stand in several places of an argument come to lists of their own.
func TestSharedWordsLeadToImagesOfTheirOwn(t *testing.T) {
	words := append(make([]int64, 0, 60), run(1, 40)...)
	r := impl.Raft{Term: 9, SnapIndex: 4, SnapTerm: 2, Snap: words, Log: []impl.Entry{
		{Index: 5, Term: 3, Data: words[:6]}, {Index: 6, Term: 3, Data: words[:6]}, {Index: 7, Term: 3, Data: words[3:3]},
	}}
	wantNewMemory(t, "ImageOf", impl.ImageOf(r), r)
	wantNewMemory(t, "SnapPuts", impl.SnapPuts(r), r)
	wantNewMemory(t, "SnapFile", impl.SnapFile(r), r)
	view := []impl.Put{{At: 2, Words: words}, {At: 3, Words: words}, {At: 4, Words: words[:9]}}
	wantNewMemory(t, "DiffPuts of nothing and one", impl.DiffPuts(nil, view), view)
	wantNewMemory(t, "DiffPuts of one and its beginning", impl.DiffPuts(view[:1], view), view)
	wantPuts(t, "DiffPuts of one list", impl.DiffPuts(view, view), nil)
}

// Blocks that hold the same words, as one list: the store that is loaded has lists of its own.
func TestSharedBlocksLeadToAStoreOfItsOwn(t *testing.T) {
	block := append(make([]int64, 0, 20), run(1, 8)...)
	r := impl.Raft{Term: 9, SnapIndex: 4, SnapTerm: 2, Snap: append(run(1, 8), run(1, 8)...), Log: []impl.Entry{entryOf(5, 2, 8, 8)}}
	view := withBlock(withBlock(homeImage(r), 3, block), 4, block)
	loaded := impl.LoadRaft(view)
	wantRaft(t, "of one list", loaded, r)
	wantNewMemory(t, "of one list", loaded, view)
}

// What was given may be written to behind a call: what it answered hangs on it no more.
func TestImagesAreApartFromWhatWasGiven(t *testing.T) {
	r, image := knownStore(), homeImage(knownStore())
	blocks, snap, file := impl.ImageOf(r), impl.SnapPuts(r), impl.SnapFile(r)
	loaded, differs := impl.LoadRaft(image), impl.DiffPuts(nil, image)
	r.Snap[0], r.Log[2].Data[1], r.Log[0].Term = -77, -77, -77
	for _, p := range image {
		p.Words[0] = -77
	}
	wantPuts(t, "ImageOf", blocks, homeImage(knownStore()))
	wantPuts(t, "SnapPuts", snap, []impl.Put{{At: 3, Words: []int64{7, 8}}})
	wantFiles(t, "SnapFile", file, []impl.File{fileOf(2, 2, 3)})
	wantRaft(t, "LoadRaft", loaded, knownStore())
	wantPuts(t, "DiffPuts", differs, homeImage(knownStore()))
}
