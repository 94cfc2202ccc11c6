package tests

import (
	"math"
	"slices"
	"testing"

	"loop.example/g00311/impl"
)

// Promise 1: the functions of objects answer at every argument. Here: which code, and which of two comes first.

type objectCase struct {
	name   string
	object impl.Object
	code   int64
}

func objectCases() []objectCase {
	one, many, bad := []int64{1}, same(1, 17), []int64{-1}
	return []objectCase{
		{"an object", impl.Object{At: 3, From: 2, Words: []int64{7, 8}}, impl.OK},
		{"the zero value", impl.Object{}, impl.ErrMany},
		{"the least home block", impl.Object{At: math.MinInt64, Words: one}, impl.ErrRange},
		{"home block -1", impl.Object{At: -1, Words: one}, impl.ErrRange},
		{"home block 0", impl.Object{At: 0, Words: one}, impl.OK},
		{"home block 39", impl.Object{At: 39, Words: one}, impl.OK},
		{"home block 40", impl.Object{At: 40, Words: one}, impl.ErrRange},
		{"home block 65", impl.Object{At: 65, Words: one}, impl.ErrRange},
		{"the greatest home block", impl.Object{At: math.MaxInt64, Words: one}, impl.ErrRange},
		{"the least word of a block", impl.Object{From: math.MinInt64, Words: one}, impl.ErrRange},
		{"from -1", impl.Object{From: -1, Words: one}, impl.ErrRange},
		{"from 0", impl.Object{From: 0, Words: one}, impl.OK},
		{"from 63", impl.Object{From: 63, Words: one}, impl.OK},
		{"from 64", impl.Object{From: 64, Words: one}, impl.ErrRange},
		{"the greatest word of a block", impl.Object{From: math.MaxInt64, Words: one}, impl.ErrRange},
		{"just below the greatest, 16 words", impl.Object{From: math.MaxInt64 - 15, Words: same(1, 16)}, impl.ErrRange},
		{"no words", impl.Object{At: 3}, impl.ErrMany},
		{"an empty list of words", impl.Object{At: 3, Words: []int64{}}, impl.ErrMany},
		{"no words at the end", impl.Object{At: 3, From: 63}, impl.ErrMany},
		{"16 words", impl.Object{At: 3, Words: same(1, 16)}, impl.OK},
		{"17 words", impl.Object{At: 3, Words: many}, impl.ErrMany},
		{"64 words", impl.Object{At: 3, Words: same(1, 64)}, impl.ErrMany},
		{"1000 words", impl.Object{At: 3, Words: same(1, 1000)}, impl.ErrMany},
		{"two up to the end", impl.Object{At: 3, From: 62, Words: same(1, 2)}, impl.OK},
		{"two beyond the end", impl.Object{At: 3, From: 63, Words: same(1, 2)}, impl.ErrMany},
		{"16 up to the end", impl.Object{At: 3, From: 48, Words: same(1, 16)}, impl.OK},
		{"16 beyond the end", impl.Object{At: 3, From: 49, Words: same(1, 16)}, impl.ErrMany},
		{"16 far beyond the end", impl.Object{At: 3, From: 63, Words: same(1, 16)}, impl.ErrMany},
		{"word -1", impl.Object{At: 3, Words: bad}, impl.ErrRange},
		{"word 0", impl.Object{At: 3, Words: []int64{0}}, impl.OK},
		{"word 65535", impl.Object{At: 3, Words: []int64{65535}}, impl.OK},
		{"word 65536", impl.Object{At: 3, Words: []int64{65536}}, impl.ErrRange},
		{"the least word", impl.Object{At: 3, Words: []int64{1, math.MinInt64}}, impl.ErrRange},
		{"the greatest word", impl.Object{At: 3, Words: []int64{1, math.MaxInt64}}, impl.ErrRange},
		{"the last of 16 words", impl.Object{At: 3, Words: append(same(1, 15), 65536)}, impl.ErrRange},
		{"a block ahead of no words", impl.Object{At: 40}, impl.ErrRange},
		{"a block ahead of many words", impl.Object{At: -1, Words: many}, impl.ErrRange},
		{"from ahead of no words", impl.Object{From: 64}, impl.ErrRange},
		{"from ahead of many words", impl.Object{From: -1, Words: many}, impl.ErrRange},
		{"many words ahead of one that is wrong", impl.Object{At: 3, Words: same(-1, 17)}, impl.ErrMany},
		{"beyond the end ahead of a word that is wrong", impl.Object{At: 3, From: 63, Words: same(65536, 2)}, impl.ErrMany},
	}
}

func TestObjectFault(t *testing.T) {
	for _, c := range objectCases() {
		if code := impl.ObjectFault(c.object); code != c.code {
			t.Errorf("%s: %d, want %d", c.name, code, c.code)
		}
	}
}

// Every number of words from every word on: just those that end within the block are objects.
func TestObjectsEndWithinTheirBlock(t *testing.T) {
	for from := range int64(64) {
		for n := range 70 {
			code := int64(impl.ErrMany)
			if n >= 1 && n <= 16 && from+int64(n) <= 64 {
				code = impl.OK
			}
			o := impl.Object{At: 39, From: from, Words: same(65535, n)}
			if got := impl.ObjectFault(o); got != code {
				t.Errorf("%d words from %d on: %d, want %d", n, from, got, code)
			}
			wantIntsCode(t, "MergeObject", impl.MergeObject(nil, o), code)
		}
	}
}

type rangeCase struct {
	name    string
	from, n int64
	code    int64
}

func rangeCases() []rangeCase {
	return []rangeCase{
		{"nothing", 0, 0, impl.OK},
		{"from -1, no words", -1, 0, impl.ErrRange},
		{"from -1, together 0", -1, 1, impl.ErrRange},
		{"from -1, 64 words", -1, 64, impl.ErrRange},
		{"-1 words", 1, -1, impl.ErrRange},
		{"-1 words from 0 on", 0, -1, impl.ErrRange},
		{"-1 words from 64 on", 64, -1, impl.ErrRange},
		{"both -1", -1, -1, impl.ErrRange},
		{"all", 0, 64, impl.OK},
		{"one more than all", 0, 65, impl.ErrRange},
		{"the last one", 63, 1, impl.OK},
		{"one beyond the last one", 63, 2, impl.ErrRange},
		{"none at the end", 64, 0, impl.OK},
		{"one at the end", 64, 1, impl.ErrRange},
		{"none beyond the end", 65, 0, impl.ErrRange},
		{"together 64, one above it", 65, -1, impl.ErrRange},
		{"together 64, the other one above it", -1, 65, impl.ErrRange},
		{"together 64", 40, 24, impl.OK},
		{"together 65", 40, 25, impl.ErrRange},
		{"together 65, the other one greater", 25, 40, impl.ErrRange},
		{"the least from", math.MinInt64, 0, impl.ErrRange},
		{"the greatest from", math.MaxInt64, 0, impl.ErrRange},
		{"the least n", 0, math.MinInt64, impl.ErrRange},
		{"the greatest n", 0, math.MaxInt64, impl.ErrRange},
		{"the greatest n from 1 on", 1, math.MaxInt64, impl.ErrRange},
		{"the greatest n from 64 on", 64, math.MaxInt64, impl.ErrRange},
		{"one from the greatest on", math.MaxInt64, 1, impl.ErrRange},
		{"64 from the greatest on", math.MaxInt64, 64, impl.ErrRange},
		{"both the greatest", math.MaxInt64, math.MaxInt64, impl.ErrRange},
		{"both the least", math.MinInt64, math.MinInt64, impl.ErrRange},
		{"together -1", math.MinInt64, math.MaxInt64, impl.ErrRange},
		{"together -1, the other way round", math.MaxInt64, math.MinInt64, impl.ErrRange},
		{"a sum that goes round to 0", math.MaxInt64/2 + 1, math.MaxInt64/2 + 1, impl.ErrRange},
	}
}

// The codes of words come ahead of those of from and n.
func TestReadObjectCodes(t *testing.T) {
	for _, w := range wordsCases() {
		for _, c := range rangeCases() {
			wantIntsCode(t, w.name+", "+c.name, impl.ReadObject(w.words, c.from, c.n), firstCode(w.code, c.code))
		}
	}
}

func TestReadObjectRangeEverywhere(t *testing.T) {
	for from := int64(-2); from <= 67; from++ {
		for n := int64(-2); n <= 67; n++ {
			code := int64(impl.ErrRange)
			if from >= 0 && n >= 0 && from+n <= 64 {
				code = impl.OK
			}
			wantIntsCode(t, "ReadObject", impl.ReadObject(run(1, 40), from, n), code)
		}
	}
}

// The codes of words come ahead of those of the object.
func TestMergeObjectCodes(t *testing.T) {
	for _, w := range wordsCases() {
		for _, o := range objectCases() {
			wantIntsCode(t, w.name+", "+o.name, impl.MergeObject(w.words, o.object), firstCode(w.code, o.code))
		}
	}
}

// An object that has a fault clashes with none, not even with itself.
func TestFaultsDoNotClash(t *testing.T) {
	for _, a := range objectCases() {
		if impl.ClashObjects(a.object, a.object) != (a.code == impl.OK) {
			t.Errorf("%s, and itself", a.name)
		}
		for _, b := range objectCases() {
			if (a.code != impl.OK || b.code != impl.OK) && impl.ClashObjects(a.object, b.object) {
				t.Errorf("%s, %s", a.name, b.name)
			}
		}
	}
	right := impl.Object{At: 3, From: 48, Words: same(1, 16)}
	for _, wrong := range []impl.Object{{At: 3, From: 49, Words: same(1, 16)}, {At: 3, From: 40, Words: same(1, 17)}, {At: 3, From: 50, Words: []int64{65536}}} {
		if impl.ClashObjects(right, wrong) || impl.ClashObjects(wrong, right) {
			t.Errorf("%v", wrong)
		}
	}
}

type objectsCase struct {
	name string
	list []impl.Object
	code int64
}

// objectsOf gives n objects without a fault, each of the next block.
func objectsOf(n int) []impl.Object {
	var list []impl.Object
	for i := range int64(n) {
		list = append(list, impl.Object{At: i % 40, From: i % 64, Words: []int64{i}})
	}
	return list
}

func objectsCases() []objectsCase {
	place, many, word := impl.Object{At: 40}, impl.Object{At: 3}, impl.Object{At: 3, Words: []int64{-1}}
	list := []objectsCase{
		{"no objects", nil, impl.OK},
		{"an empty list of objects", []impl.Object{}, impl.OK},
		{"12 objects", objectsOf(12), impl.OK},
		{"12 objects of one block", slices.Repeat(objectsOf(1), 12), impl.OK},
		{"13 objects", objectsOf(13), impl.ErrMany},
		{"13 objects of one block", slices.Repeat(objectsOf(1), 13), impl.ErrMany},
		{"60 objects", objectsOf(60), impl.ErrMany},
		{"13 ahead of a place", slices.Repeat([]impl.Object{place}, 13), impl.ErrMany},
		{"13 ahead of a word", slices.Repeat([]impl.Object{word}, 13), impl.ErrMany},
		{"the last of 12 is wrong", append(objectsOf(11), word), impl.ErrRange},
		{"one by one: a place ahead of no words", []impl.Object{place, many}, impl.ErrRange},
		{"one by one: no words ahead of a place", []impl.Object{many, place}, impl.ErrMany},
		{"one by one: a word ahead of no words", []impl.Object{word, many}, impl.ErrRange},
		{"one by one: no words ahead of a word", []impl.Object{many, word}, impl.ErrMany},
	}
	for _, c := range objectCases() {
		list = append(list, objectsCase{c.name, append(objectsOf(2), c.object), c.code})
	}
	return list
}

// All codes of the view, also that it is none, come ahead of those of the objects.
func TestPutsOfCodes(t *testing.T) {
	for _, v := range viewCases() {
		for _, o := range objectsCases() {
			wantPutsCode(t, v.name+", "+o.name, impl.PutsOf(v.puts, o.list), firstCode(v.code, o.code))
		}
	}
	for _, v := range manyPutsCases() {
		if v.code == impl.OK {
			continue
		}
		for _, o := range objectsCases() {
			wantPutsCode(t, v.name+", "+o.name, impl.PutsOf(v.puts, o.list), v.code)
		}
	}
}

// The codes of a view are those that ApplyPuts tells of it.
func TestPutsOfAsksTheViewAsApplyPuts(t *testing.T) {
	for _, v := range slices.Concat(manyPutsCases(), viewCases()) {
		wantPutsCode(t, v.name, impl.PutsOf(v.puts, objectsOf(1)), impl.ApplyPuts(v.puts, nil).Code)
	}
	falls := []impl.Put{{At: 4, Words: []int64{1}}, {At: 3, Words: []int64{1}}}
	wantPutsCode(t, "a fault behind what falls", impl.PutsOf(append(falls, impl.Put{At: 40}), nil), impl.ErrRange)
	wantPutsCode(t, "many words behind one without", impl.PutsOf([]impl.Put{{At: 3}, {At: 4, Words: same(1, 65)}}, nil), impl.ErrMany)
	wantPutsCode(t, "61 of one block", impl.PutsOf(putsAt(3, 61), nil), impl.ErrMany)
}

func TestNilAndEmptyAreTheSameToObjects(t *testing.T) {
	o := impl.Object{At: 3, From: 2, Words: []int64{7}}
	wantWords(t, "ReadObject", impl.ReadObject([]int64{}, 0, 2), impl.ReadObject(nil, 0, 2).List)
	wantWords(t, "MergeObject", impl.MergeObject([]int64{}, o), impl.MergeObject(nil, o).List)
	wantPuts(t, "PutsOf", impl.PutsOf([]impl.Put{}, []impl.Object{o}), impl.PutsOf(nil, []impl.Object{o}).Puts)
	wantPuts(t, "PutsOf of no objects", impl.PutsOf([]impl.Put{}, []impl.Object{}), nil)
}
