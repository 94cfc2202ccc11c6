package tests

import (
	"math"
	"testing"

	"loop.example/g00311/impl"
)

// Promise 1: the functions of objects change no argument, their answers are new memory and hang on the arguments alone.

type objectArgs struct {
	Words []int64
	From  int64
	N     int64
	A     impl.Object
	B     impl.Object
	View  []impl.Put
	List  []impl.Object
}

func objectArgsList() []objectArgs {
	words := [][]int64{nil, run(1, 1), run(1, 33), run(1, 64), run(1, 65), {-1}}
	ranges := [][2]int64{{0, 0}, {0, 64}, {3, 16}, {63, 1}, {64, 0}, {60, 5}, {-1, 3}, {math.MaxInt64, math.MaxInt64}}
	objects := []impl.Object{objectFrom(3, 2, 2, 1), objectFrom(3, 48, 16, 2), objectFrom(5, 0, 1, 3), objectFrom(3, 63, 2, 1), {At: 40, Words: run(1, 3)}, {}}
	views := [][]impl.Put{
		nil,
		{{At: 3, Words: run(1, 64)}},
		{{At: 0, Words: run(9, 2)}, {At: 3, Words: run(4, 1)}, {At: 39, Words: run(5, 33)}},
		{{At: 5, Words: run(9, 2)}, {At: 3, Words: run(4, 1)}},
	}
	lists := [][]impl.Object{nil, objects[:1], objects[:3], {objects[2], objects[0], objects[2], objects[1], objects[0]}, objects, objectsOf(12), objectsOf(13)}
	var list []objectArgs
	for i := range 120 {
		r := ranges[i%len(ranges)]
		list = append(list, objectArgs{words[i%len(words)], r[0], r[1], objects[i%len(objects)], objects[(i/2)%len(objects)], views[(i/3)%len(views)], lists[i%len(lists)]})
	}
	return list
}

func objectCalls() []namedCall[objectArgs] {
	return []namedCall[objectArgs]{
		{"ObjectFault", func(a objectArgs) any { return impl.ObjectFault(a.A) }},
		{"ReadObject", func(a objectArgs) any { return impl.ReadObject(a.Words, a.From, a.N) }},
		{"MergeObject", func(a objectArgs) any { return impl.MergeObject(a.Words, a.A) }},
		{"ClashObjects", func(a objectArgs) any { return impl.ClashObjects(a.A, a.B) }},
		{"PutsOf", func(a objectArgs) any { return impl.PutsOf(a.View, a.List) }},
	}
}

func TestObjectCallsKeepToTheirArguments(t *testing.T) {
	wantCallsApart(t, objectCalls(), objectArgsList())
}

// Blocks, views and objects that are one list: the answer still shares nothing.
func TestSharedWordsLeadToObjectsOfTheirOwn(t *testing.T) {
	words := run(1, 64)
	short := words[:16]
	view := []impl.Put{{At: 1, Words: words}, {At: 2, Words: words}, {At: 3, Words: short}}
	list := []impl.Object{{At: 4, Words: short}, {At: 1, Words: short}, {At: 4, Words: short}, {At: 2, From: 48, Words: short}, {At: 5, Words: short}, {At: 3, Words: short}}
	for _, n := range []int64{0, 1, 16, 64} {
		wantNewMemory(t, "ReadObject", impl.ReadObject(words, 0, n), words)
		wantNewMemory(t, "ReadObject up to the end", impl.ReadObject(words, 64-n, n), words)
	}
	for _, o := range list {
		wantNewMemory(t, "MergeObject", impl.MergeObject(words, o), words, o)
		wantNewMemory(t, "MergeObject into few words", impl.MergeObject(short, o), words, o)
		wantNewMemory(t, "MergeObject into none", impl.MergeObject(nil, o), words, o)
	}
	wantNewMemory(t, "PutsOf", impl.PutsOf(view, list), view, list)
	wantNewMemory(t, "PutsOf of no view", impl.PutsOf(nil, list), list)
	for i := range words {
		if words[i] != int64(i)+1 {
			t.Fatal("an argument was changed")
		}
	}
}
