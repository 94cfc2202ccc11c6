package tests

import (
	"math/rand"
	"slices"
	"testing"

	"loop.example/g00311/impl"
)

// Promise 6: what is merged into a block is read there, and all beside it is as it was; objects that do not clash may be merged in any order.

// plainMerge goes word by word of the 64 of a block.
func plainMerge(words []int64, o impl.Object) []int64 {
	var list []int64
	for i := range int64(64) {
		switch {
		case i >= o.From && i < o.From+int64(len(o.Words)):
			list = append(list, o.Words[i-o.From])
		case i < int64(len(words)):
			list = append(list, words[i])
		case i < o.From:
			list = append(list, 0)
		}
	}
	return list
}

// plainWhole is all 64 words of a block, 0 where it has none.
func plainWhole(words []int64) []int64 {
	return append(slices.Clone(words), make([]int64, 64-len(words))...)
}

// plainClash counts for each word of a block how many of the two have it.
func plainClash(a impl.Object, b impl.Object) bool {
	var has [40][64]int
	for _, o := range []impl.Object{a, b} {
		for i := range o.Words {
			has[o.At][o.From+int64(i)]++
		}
	}
	for _, block := range has {
		if slices.Contains(block[:], 2) {
			return true
		}
	}
	return false
}

// plainPutsOf goes block by block, in the order in which they first come.
func plainPutsOf(view []impl.Put, list []impl.Object) []impl.Put {
	var homes plainHomes
	homes.put(view)
	var puts []impl.Put
	for i, o := range list {
		if slices.ContainsFunc(list[:i], func(x impl.Object) bool { return x.At == o.At }) {
			continue
		}
		words := homes[o.At]
		for _, x := range list[i:] {
			if x.At == o.At {
				words = plainMerge(words, x)
			}
		}
		puts = append(puts, impl.Put{At: o.At, Words: words})
	}
	return puts
}

// eachRange calls do with every place and number of words that an object may have.
func eachRange(do func(from int64, n int)) {
	for from := range int64(64) {
		for n := 1; n <= 16 && from+int64(n) <= 64; n++ {
			do(from, n)
		}
	}
}

// eachOrder calls do with list in every order; do does not keep it.
func eachOrder(list []impl.Object, do func(list []impl.Object)) {
	var from func(i int)
	from = func(i int) {
		if i >= len(list) {
			do(list)
			return
		}
		for j := i; j < len(list); j++ {
			list[i], list[j] = list[j], list[i]
			from(i + 1)
			list[i], list[j] = list[j], list[i]
		}
	}
	from(0)
}

// objectFrom gives an object of n words from from on, all of them above 60000 and, of another seed, others.
func objectFrom(at int64, from int64, n int, seed int64) impl.Object {
	return impl.Object{At: at, From: from, Words: run(60000+seed*100, n)}
}

func randomObject(rnd *rand.Rand, blocks int64) impl.Object {
	n := 1 + rnd.Intn(16)
	return objectFrom(rnd.Int63n(blocks), rnd.Int63n(65-int64(n)), n, rnd.Int63n(50))
}

func randomObjects(rnd *rand.Rand, n int, blocks int64) []impl.Object {
	var list []impl.Object
	for range n {
		list = append(list, randomObject(rnd, blocks))
	}
	return list
}

// apartObjects tries n times to find an object that clashes with none of those that it has, and stops at most.
func apartObjects(rnd *rand.Rand, n int, blocks int64, most int) []impl.Object {
	var list []impl.Object
	for range n {
		o := randomObject(rnd, blocks)
		if len(list) < most && !slices.ContainsFunc(list, func(x impl.Object) bool { return plainClash(x, o) }) {
			list = append(list, o)
		}
	}
	return list
}

func TestReadObjectByHand(t *testing.T) {
	cases := []struct {
		name  string
		words []int64
		from  int64
		n     int64
		want  []int64
	}{
		{"nothing of nothing", nil, 0, 0, nil},
		{"nothing of something", []int64{7, 8}, 1, 0, nil},
		{"nothing at the end", run(1, 64), 64, 0, nil},
		{"nothing at the end of nothing", nil, 64, 0, nil},
		{"all", []int64{7, 8, 9}, 0, 3, []int64{7, 8, 9}},
		{"the first one", []int64{7, 8, 9}, 0, 1, []int64{7}},
		{"one between", []int64{7, 8, 9}, 1, 1, []int64{8}},
		{"the last one", []int64{7, 8, 9}, 2, 1, []int64{9}},
		{"one beyond the last one", []int64{7, 8, 9}, 2, 2, []int64{9, 0}},
		{"just behind the last one", []int64{7, 8, 9}, 3, 2, []int64{0, 0}},
		{"far behind the last one", []int64{7, 8, 9}, 50, 3, []int64{0, 0, 0}},
		{"words of nothing", nil, 0, 2, []int64{0, 0}},
		{"words of an empty list", []int64{}, 5, 1, []int64{0}},
		{"the last word of 64", run(1, 64), 63, 1, []int64{64}},
		{"the last word of 63", run(1, 63), 63, 1, []int64{0}},
		{"all 64 of 64", run(1, 64), 0, 64, run(1, 64)},
		{"all 64 of one", []int64{5}, 0, 64, append([]int64{5}, same(0, 63)...)},
		{"all 64 of nothing", nil, 0, 64, same(0, 64)},
		{"more than an object may have", run(1, 64), 10, 17, run(11, 17)},
		{"the greatest word", []int64{0, 65535}, 1, 1, []int64{65535}},
	}
	for _, c := range cases {
		wantWords(t, c.name, impl.ReadObject(c.words, c.from, c.n), c.want)
	}
}

func TestReadObjectEverywhere(t *testing.T) {
	for size := range 65 {
		words := run(100, size)
		whole := plainWhole(words)
		for from := range int64(65) {
			for n := range 65 - from {
				wantWords(t, "ReadObject", impl.ReadObject(words, from, n), whole[from:from+n])
			}
		}
	}
}

func TestMergeByHand(t *testing.T) {
	cases := []struct {
		name  string
		words []int64
		from  int64
		put   []int64
		want  []int64
	}{
		{"into nothing", nil, 0, []int64{7, 8}, []int64{7, 8}},
		{"into nothing, behind a gap", nil, 2, []int64{7}, []int64{0, 0, 7}},
		{"into an empty list, behind a gap", []int64{}, 2, []int64{7}, []int64{0, 0, 7}},
		{"over the first one", []int64{1, 2, 3}, 0, []int64{7}, []int64{7, 2, 3}},
		{"over one between", []int64{1, 2, 3}, 1, []int64{7}, []int64{1, 7, 3}},
		{"over the last one", []int64{1, 2, 3}, 2, []int64{7}, []int64{1, 2, 7}},
		{"over the last one and beyond", []int64{1, 2, 3}, 2, []int64{7, 8}, []int64{1, 2, 7, 8}},
		{"just behind the last one", []int64{1, 2, 3}, 3, []int64{7}, []int64{1, 2, 3, 7}},
		{"one word between", []int64{1, 2, 3}, 4, []int64{7}, []int64{1, 2, 3, 0, 7}},
		{"over all", []int64{1, 2, 3}, 0, []int64{7, 8, 9}, []int64{7, 8, 9}},
		{"over all and beyond", []int64{1, 2, 3}, 0, []int64{7, 8, 9, 10}, []int64{7, 8, 9, 10}},
		{"words 0 take the place of others", []int64{1, 2, 3}, 1, []int64{0, 0}, []int64{1, 0, 0}},
		{"a word 0 at the end is a word", nil, 1, []int64{0}, []int64{0, 0}},
		{"the last word of a block that has none", nil, 63, []int64{7}, append(same(0, 63), 7)},
		{"the last word of a block that has all", run(1, 64), 63, []int64{7}, append(run(1, 63), 7)},
		{"the first word of a block that has all", run(1, 64), 0, []int64{7}, append([]int64{7}, run(2, 63)...)},
		{"16 words up to the end", run(1, 64), 48, run(700, 16), append(run(1, 48), run(700, 16)...)},
		{"the greatest word", nil, 0, []int64{65535}, []int64{65535}},
	}
	for _, c := range cases {
		for _, at := range []int64{0, 17, 39} {
			wantWords(t, c.name, impl.MergeObject(c.words, impl.Object{At: at, From: c.from, Words: c.put}), c.want)
		}
	}
}

// Every place and number of words, merged into blocks of every length: it is read there, and the words ahead of it and behind it are as they were.
func TestMergedIsReadAndAllBesideStays(t *testing.T) {
	for size := range 65 {
		words := run(100, size)
		eachRange(func(from int64, n int) {
			o := objectFrom(9, from, n, 1)
			end := from + int64(n)
			r := impl.MergeObject(words, o)
			wantWords(t, "MergeObject", r, plainMerge(words, o))
			wantWords(t, "it", impl.ReadObject(r.List, from, int64(n)), o.Words)
			wantWords(t, "ahead of it", impl.ReadObject(r.List, 0, from), plainWhole(words)[:from])
			wantWords(t, "behind it", impl.ReadObject(r.List, end, 64-end), plainWhole(words)[end:])
			if want := max(int64(size), end); int64(len(r.List)) != want {
				t.Fatalf("%d words, want %d", len(r.List), want)
			}
		})
	}
}

// What is read and merged again at its place changes no word.
func TestMergingWhatIsReadChangesNothing(t *testing.T) {
	for _, size := range []int{0, 1, 31, 32, 63, 64} {
		words := run(100, size)
		eachRange(func(from int64, n int) {
			o := impl.Object{At: 3, From: from, Words: impl.ReadObject(words, from, int64(n)).List}
			wantWords(t, "all words", impl.ReadObject(impl.MergeObject(words, o).List, 0, 64), plainWhole(words))
		})
	}
}

func TestMergingTwiceIsMergingOnce(t *testing.T) {
	for _, size := range []int{0, 20, 64} {
		eachRange(func(from int64, n int) {
			o := objectFrom(3, from, n, 2)
			once := impl.MergeObject(run(100, size), o)
			wantWords(t, "twice", impl.MergeObject(once.List, o), once.List)
		})
	}
}

func TestClashByHand(t *testing.T) {
	cases := []struct {
		name     string
		at, from int64
		n        int
		want     bool
	}{
		{"the same words", 5, 10, 4, true},
		{"the same words of another block", 6, 10, 4, false},
		{"the same words of the first block", 0, 10, 4, false},
		{"touches ahead", 5, 8, 2, false},
		{"touches behind", 5, 14, 2, false},
		{"the first word in common", 5, 8, 3, true},
		{"the last word in common", 5, 13, 2, true},
		{"the first word alone", 5, 10, 1, true},
		{"the last word alone", 5, 13, 1, true},
		{"within", 5, 11, 2, true},
		{"around", 5, 9, 6, true},
		{"around, of the greatest length", 5, 4, 16, true},
		{"the same beginning, longer", 5, 10, 9, true},
		{"the same end, longer", 5, 2, 12, true},
		{"far ahead", 5, 0, 1, false},
		{"far behind", 5, 63, 1, false},
	}
	o := objectFrom(5, 10, 4, 1)
	for _, c := range cases {
		x := objectFrom(c.at, c.from, c.n, 2)
		if impl.ClashObjects(o, x) != c.want || impl.ClashObjects(x, o) != c.want {
			t.Errorf("%s: not %v", c.name, c.want)
		}
	}
	if !impl.ClashObjects(o, o) {
		t.Error("an object and itself")
	}
	if impl.ClashObjects(objectFrom(5, 0, 16, 1), objectFrom(5, 16, 16, 1)) || impl.ClashObjects(objectFrom(5, 47, 1, 1), objectFrom(5, 48, 16, 1)) {
		t.Error("the same numbers at other words")
	}
}

// Which words they hold is nothing to a clash: just where they stand.
func TestClashHangsOnPlacesAlone(t *testing.T) {
	a := impl.Object{At: 5, From: 10, Words: []int64{7, 7}}
	if !impl.ClashObjects(a, impl.Object{At: 5, From: 11, Words: []int64{7}}) || !impl.ClashObjects(a, impl.Object{At: 5, From: 11, Words: []int64{0}}) || impl.ClashObjects(a, impl.Object{At: 5, From: 12, Words: []int64{7}}) {
		t.Error("words, not places")
	}
}

// All pairs of places of one block and of two: they clash just where a word is of both.
func TestClashEverywhere(t *testing.T) {
	eachRange(func(from int64, n int) {
		a := objectFrom(7, from, n, 1)
		eachRange(func(other int64, m int) {
			common := min(from+int64(n), other+int64(m)) - max(from, other)
			if got := impl.ClashObjects(a, objectFrom(7, other, m, 2)); got != (common > 0) {
				t.Fatalf("%d words from %d on, %d from %d on: %v", n, from, m, other, got)
			}
		})
		if impl.ClashObjects(a, objectFrom(8, from, n, 1)) || impl.ClashObjects(objectFrom(39, from, n, 1), a) {
			t.Fatalf("%d words from %d on of two blocks", n, from)
		}
	})
}

// Two objects of one block come to the same in both orders just where they do not clash, as all their words differ.
func TestTwoObjectsInBothOrders(t *testing.T) {
	words := run(100, 40)
	eachRange(func(from int64, n int) {
		a := objectFrom(7, from, n, 1)
		for other := range int64(64) {
			for _, m := range []int{1, 2, 5, 16} {
				if other+int64(m) > 64 {
					continue
				}
				b := objectFrom(7, other, m, 2)
				ab := impl.MergeObject(impl.MergeObject(words, a).List, b).List
				ba := impl.MergeObject(impl.MergeObject(words, b).List, a).List
				if slices.Equal(ab, ba) == impl.ClashObjects(a, b) {
					t.Fatalf("%v and %v: %v, %v", a, b, ab, ba)
				}
			}
		}
	})
}

// Objects that do not clash, of one block and of several: all are read, and every order comes to the same.
func TestObjectsThatDoNotClashInAnyOrder(t *testing.T) {
	rnd := rand.New(rand.NewSource(21))
	for range 150 {
		blocks := 1 + rnd.Int63n(3)
		list := apartObjects(rnd, 12, blocks, 5)
		view := plainApply(nil, homePuts(rnd, rnd.Intn(8), 4))
		want := impl.ApplyPuts(view, plainPutsOf(view, list)).Puts
		eachOrder(list, func(list []impl.Object) {
			r := impl.PutsOf(view, list)
			wantPuts(t, "PutsOf", r, plainPutsOf(view, list))
			wantPuts(t, "what is seen then", impl.ApplyPuts(view, r.Puts), want)
			for _, o := range list {
				wantWords(t, "one of them", impl.ReadObject(wordsSeen(r.Puts, o.At), o.From, int64(len(o.Words))), o.Words)
			}
		})
	}
}

func wordsSeen(view []impl.Put, at int64) []int64 {
	for _, p := range view {
		if p.At == at {
			return p.Words
		}
	}
	return nil
}

func TestPutsOfByHand(t *testing.T) {
	view := []impl.Put{{At: 0, Words: []int64{1, 2, 3}}, {At: 5, Words: run(1, 64)}, {At: 39, Words: []int64{4}}}
	cases := []struct {
		name string
		list []impl.Object
		want []impl.Put
	}{
		{"no objects", nil, nil},
		{"an empty list", []impl.Object{}, nil},
		{"one of the first block", []impl.Object{{At: 0, From: 1, Words: []int64{9}}}, []impl.Put{{At: 0, Words: []int64{1, 9, 3}}}},
		{"one of the last block", []impl.Object{{At: 39, From: 2, Words: []int64{9}}}, []impl.Put{{At: 39, Words: []int64{4, 0, 9}}}},
		{"one of a full block", []impl.Object{{At: 5, From: 63, Words: []int64{9}}}, []impl.Put{{At: 5, Words: append(run(1, 63), 9)}}},
		{"a block that is not in the view", []impl.Object{{At: 6, From: 1, Words: []int64{9}}}, []impl.Put{{At: 6, Words: []int64{0, 9}}}},
		{"a block ahead of all but one", []impl.Object{{At: 1, From: 0, Words: []int64{9}}}, []impl.Put{{At: 1, Words: []int64{9}}}},
		{"what is there already", []impl.Object{{At: 39, From: 0, Words: []int64{4}}}, []impl.Put{{At: 39, Words: []int64{4}}}},
		{"two that touch", []impl.Object{{At: 0, From: 1, Words: []int64{8}}, {At: 0, From: 2, Words: []int64{9}}}, []impl.Put{{At: 0, Words: []int64{1, 8, 9}}}},
		{"two that clash: the last one", []impl.Object{{At: 0, From: 0, Words: []int64{7, 8}}, {At: 0, From: 1, Words: []int64{9}}}, []impl.Put{{At: 0, Words: []int64{7, 9, 3}}}},
		{"two that clash, the other way round", []impl.Object{{At: 0, From: 1, Words: []int64{9}}, {At: 0, From: 0, Words: []int64{7, 8}}}, []impl.Put{{At: 0, Words: []int64{7, 8, 3}}}},
		{"one within, then around", []impl.Object{{At: 6, From: 1, Words: []int64{9}}, {At: 6, From: 0, Words: []int64{7, 7, 7}}}, []impl.Put{{At: 6, Words: []int64{7, 7, 7}}}},
		{"one thrice", slices.Repeat([]impl.Object{{At: 6, From: 0, Words: []int64{9}}}, 3), []impl.Put{{At: 6, Words: []int64{9}}}},
		{"the same words of two blocks, falling", []impl.Object{{At: 39, From: 0, Words: []int64{9}}, {At: 0, From: 0, Words: []int64{9}}}, []impl.Put{{At: 39, Words: []int64{9}}, {At: 0, Words: []int64{9, 2, 3}}}},
		{"the same words of two blocks, rising", []impl.Object{{At: 0, From: 0, Words: []int64{9}}, {At: 39, From: 0, Words: []int64{9}}}, []impl.Put{{At: 0, Words: []int64{9, 2, 3}}, {At: 39, Words: []int64{9}}}},
		{"in turns", []impl.Object{{At: 7, From: 0, Words: []int64{1}}, {At: 3, From: 0, Words: []int64{2}}, {At: 7, From: 1, Words: []int64{3}}, {At: 0, From: 4, Words: []int64{4}}, {At: 3, From: 2, Words: []int64{5}}, {At: 7, From: 0, Words: []int64{6}}},
			[]impl.Put{{At: 7, Words: []int64{6, 3}}, {At: 3, Words: []int64{2, 0, 5}}, {At: 0, Words: []int64{1, 2, 3, 0, 4}}}},
	}
	for _, c := range cases {
		wantPuts(t, c.name, impl.PutsOf(view, c.list), c.want)
	}
}

func TestPutsOfIsMergingOneByOne(t *testing.T) {
	rnd := rand.New(rand.NewSource(22))
	for _, blocks := range []int64{1, 2, 5, 40} {
		for range 300 {
			view := plainApply(nil, homePuts(rnd, rnd.Intn(60), blocks))
			list := randomObjects(rnd, rnd.Intn(13), blocks)
			r := impl.PutsOf(view, list)
			wantPuts(t, "PutsOf", r, plainPutsOf(view, list))
			wantPuts(t, "one by one", impl.ApplyPuts(view, r.Puts), mergedOneByOne(t, view, list))
		}
	}
}

// mergedOneByOne is what is seen when each object is a put of its own.
func mergedOneByOne(t *testing.T, view []impl.Put, list []impl.Object) []impl.Put {
	t.Helper()
	for _, o := range list {
		r := impl.MergeObject(wordsSeen(view, o.At), o)
		view = impl.ApplyPuts(view, []impl.Put{{At: o.At, Words: r.List}}).Puts
	}
	return view
}

// Twelve objects of twelve blocks are a batch; in two parts they come to what they come to in one.
func TestObjectsGoToTheLog(t *testing.T) {
	rnd := rand.New(rand.NewSource(23))
	for range 100 {
		d := hollowDisk(8, rnd.Int63n(24), rnd.Intn(13))
		view := impl.ViewOf(d).Puts
		list := randomObjects(rnd, 12, 40)
		cut := rnd.Intn(13)
		whole := impl.PutsOf(view, list).Puts
		seen := impl.ApplyPuts(view, whole).Puts
		half := impl.ApplyPuts(view, impl.PutsOf(view, list[:cut]).Puts).Puts
		wantPuts(t, "in two parts", impl.ApplyPuts(half, impl.PutsOf(half, list[cut:]).Puts), seen)
		logged := mustDisk(t, impl.RunSteps(d, mustSteps(t, impl.PlanAppend(d, whole))))
		wantView(t, "on a disk", logged, seen)
		last := list[11]
		wantWords(t, "the last one", impl.ReadObject(impl.ReadHome(logged, last.At).List, last.From, int64(len(last.Words))), last.Words)
	}
}
