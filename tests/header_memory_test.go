package tests

import (
	"testing"

	"loop.example/g00311/impl"
)

// Promise 1: the functions of headers change no argument, their answers are new memory and hang on the arguments alone.

type headerArgs struct {
	A, B  impl.HeaderResult
	Words []int64
	Disk  impl.Disk
	Seq   int64
}

func headerArgsList() []headerArgs {
	even := impl.Header{Seq: 4, Start: 3, Addrs: run(1, 24)}
	odd := impl.Header{Seq: 5, Start: 23, Addrs: run(7, 3)}
	many := impl.Header{Seq: 7, Addrs: same(1, 25)}
	results := []impl.HeaderResult{{}, {Header: even}, {Header: odd}, {Header: many}, {Code: 5, Header: odd}}
	put := diskOf(plainPack(even), nil)
	put.Cache = []impl.Put{{At: 1, Words: plainPack(odd)}, {At: 9, Words: run(1, 9)}}
	wrong := diskOf(plainPack(even), plainPack(odd))
	wrong.Cache = putsAt(66, 1)
	disks := []impl.Disk{{}, diskOf(plainPack(even), plainPack(odd)), diskOf(plainPack(odd), plainPack(even)), put, wrong}
	words := [][]int64{nil, plainPack(even), plainPack(odd), append(plainPack(odd), 1), {-1}, same(0, 64)}
	seqs := []int64{0, 1, 2, 65000, 65001}
	var list []headerArgs
	for i, a := range results {
		for j, b := range results {
			n := i*len(results) + j
			list = append(list, headerArgs{a, b, words[n%len(words)], disks[n%len(disks)], seqs[(n+i)%len(seqs)]})
		}
	}
	return list
}

func headerCalls() []namedCall[headerArgs] {
	return []namedCall[headerArgs]{
		{"HeaderFault", func(a headerArgs) any { return impl.HeaderFault(a.A.Header) }},
		{"PackHeader", func(a headerArgs) any { return impl.PackHeader(a.A.Header) }},
		{"UnpackHeader", func(a headerArgs) any { return impl.UnpackHeader(a.Words) }},
		{"NewestOf", func(a headerArgs) any { return impl.NewestOf(a.A, a.B) }},
		{"HeaderIn", func(a headerArgs) any { return impl.HeaderIn(a.Disk) }},
		{"FormatDisk", func(a headerArgs) any { return impl.FormatDisk(a.Seq) }},
	}
}

func TestHeaderCallsKeepToTheirArguments(t *testing.T) {
	wantCallsApart(t, headerCalls(), headerArgsList())
}

// Headers and blocks that are one list: the answer still shares nothing.
func TestSharedHeadersLeadToAnswersOfTheirOwn(t *testing.T) {
	addrs := run(1, 24)
	r := impl.HeaderResult{Header: impl.Header{Seq: 4, Addrs: addrs}}
	wantNewMemory(t, "NewestOf", impl.NewestOf(r, r), r)
	wantNewMemory(t, "PackHeader", impl.PackHeader(r.Header), r)
	words := plainPack(r.Header)
	d := diskOf(words, words)
	d.Cache = []impl.Put{{At: 0, Words: words}, {At: 1, Words: words}}
	wantNewMemory(t, "HeaderIn", impl.HeaderIn(d), d)
	wantNewMemory(t, "UnpackHeader", impl.UnpackHeader(words), words)
}
