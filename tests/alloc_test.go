package tests

import (
	"math/rand"
	"slices"
	"testing"

	"loop.example/g00311/impl"
)

// Promise 8: what is taken was free, and given back it is free again; a map is read back from its words.

// plainMap holds for each number whether the block is in use, of 3 to 22 alone.
type plainMap [23]bool

// plainMapOf takes the 20 lowest bits of a number for blocks 3 to 22.
func plainMapOf(bits int) plainMap {
	var p plainMap
	for at := 3; at <= 22; at++ {
		p[at] = bits%2 == 1
		bits /= 2
	}
	return p
}

func (p plainMap) blocks(used bool) []int64 {
	var list []int64
	for at := 3; at <= 22; at++ {
		if p[at] == used {
			list = append(list, int64(at))
		}
	}
	return list
}

func (p plainMap) with(list []int64, used bool) plainMap {
	for _, at := range list {
		p[at] = used
	}
	return p
}

func (p plainMap) words() []int64 {
	words := []int64{0, 0}
	value := int64(1)
	for i := range 10 {
		if p[3+i] {
			words[0] += value
		}
		if p[13+i] {
			words[1] += value
		}
		value *= 2
	}
	return words
}

func wantTaken(t *testing.T, name string, r impl.TakeResult, list []int64, used []int64) {
	t.Helper()
	if r.Code != impl.OK || !slices.Equal(r.List, list) || !slices.Equal(r.Used, used) {
		t.Fatalf("%s: %v, want %v and %v", name, r, list, used)
	}
}

func wantTakeCode(t *testing.T, name string, r impl.TakeResult, code int64) {
	t.Helper()
	wantCode(t, name, r.Code, len(r.List) == 0 && len(r.Used) == 0, code)
}

// wantMapRead holds the words of a map, and what is read of them, against the plain map.
func wantMapRead(t *testing.T, p plainMap) {
	t.Helper()
	used := p.blocks(true)
	if code := impl.MapFault(used); code != impl.OK {
		t.Fatalf("%v: %d", used, code)
	}
	words := impl.PackMap(used)
	wantWords(t, "PackMap", words, p.words())
	wantWords(t, "UnpackMap", impl.UnpackMap(words.List), used)
}

// wantTakeOf holds TakeBlocks against the plain map, and that what was taken was free and is free again when it is given back.
func wantTakeOf(t *testing.T, p plainMap, n int64) impl.TakeResult {
	t.Helper()
	used, free := p.blocks(true), p.blocks(false)
	r := impl.TakeBlocks(used, n)
	if n > int64(len(free)) {
		wantTakeCode(t, "TakeBlocks", r, impl.ErrFull)
		return r
	}
	wantTaken(t, "TakeBlocks", r, free[:n], p.with(free[:n], true).blocks(true))
	for _, at := range r.List {
		if impl.IsUsed(used, at) || !impl.IsUsed(r.Used, at) {
			t.Fatalf("%v, %d: %d was not free or is not taken", used, n, at)
		}
	}
	back := impl.FreeBlocks(r.Used, r.List)
	wantWords(t, "given back", back, used)
	wantTaken(t, "taken again", impl.TakeBlocks(back.List, n), r.List, r.Used)
	return r
}

func wantIsUsed(t *testing.T, p plainMap) {
	t.Helper()
	used := p.blocks(true)
	for at := int64(-3); at <= 40; at++ {
		want := at >= 3 && at <= 22 && p[at]
		if got := impl.IsUsed(used, at); got != want {
			t.Fatalf("%v: IsUsed of %d: %v", used, at, got)
		}
	}
}

func TestDataBlocks(t *testing.T) {
	if impl.DataFrom != 3 || impl.DataTo != 22 {
		t.Error("data blocks are 3 to 22")
	}
}

func TestMapWordsByHand(t *testing.T) {
	cases := []struct {
		name  string
		used  []int64
		words []int64
	}{
		{"none", nil, []int64{0, 0}},
		{"an empty list", []int64{}, []int64{0, 0}},
		{"the example", []int64{3, 13}, []int64{1, 1}},
		{"the first block of the first word", []int64{3}, []int64{1, 0}},
		{"the second one", []int64{4}, []int64{2, 0}},
		{"the last but one", []int64{11}, []int64{256, 0}},
		{"the last block of the first word", []int64{12}, []int64{512, 0}},
		{"the first block of the second word", []int64{13}, []int64{0, 1}},
		{"the second one of the second word", []int64{14}, []int64{0, 2}},
		{"the last block of the second word", []int64{22}, []int64{0, 512}},
		{"both sides of the words' border", []int64{12, 13}, []int64{512, 1}},
		{"the first and the last", []int64{3, 22}, []int64{1, 512}},
		{"all four edges", []int64{3, 12, 13, 22}, []int64{513, 513}},
		{"all of the first word", run(3, 10), []int64{1023, 0}},
		{"all of the second word", run(13, 10), []int64{0, 1023}},
		{"all but the first", run(4, 19), []int64{1022, 1023}},
		{"all but the last", run(3, 19), []int64{1023, 511}},
		{"all", run(3, 20), []int64{1023, 1023}},
	}
	for _, c := range cases {
		wantWords(t, c.name, impl.PackMap(c.used), c.words)
		wantWords(t, c.name, impl.UnpackMap(c.words), c.used)
	}
	wantWords(t, "no words", impl.UnpackMap(nil), nil)
	wantWords(t, "empty words", impl.UnpackMap([]int64{}), nil)
}

func TestTakeBlocksByHand(t *testing.T) {
	cases := []struct {
		name string
		used []int64
		n    int64
		list []int64
		then []int64
	}{
		{"none of none", nil, 0, nil, nil},
		{"none of some", []int64{4, 9}, 0, nil, []int64{4, 9}},
		{"none where all are in use", run(3, 20), 0, nil, run(3, 20)},
		{"one", nil, 1, []int64{3}, []int64{3}},
		{"two", nil, 2, []int64{3, 4}, []int64{3, 4}},
		{"19", nil, 19, run(3, 19), run(3, 19)},
		{"all", nil, 20, run(3, 20), run(3, 20)},
		{"ahead of those in use", []int64{10, 11, 22}, 3, []int64{3, 4, 5}, []int64{3, 4, 5, 10, 11, 22}},
		{"just up to those in use", []int64{6, 7}, 3, []int64{3, 4, 5}, []int64{3, 4, 5, 6, 7}},
		{"between those in use", []int64{3, 5, 7}, 2, []int64{4, 6}, run(3, 5)},
		{"between and behind", []int64{3, 5, 7}, 3, []int64{4, 6, 8}, run(3, 6)},
		{"ahead, between and behind", []int64{4, 6, 7}, 3, []int64{3, 5, 8}, run(3, 6)},
		{"behind those in use", run(3, 10), 2, []int64{13, 14}, run(3, 12)},
		{"the last one alone is free", run(3, 19), 1, []int64{22}, run(3, 20)},
		{"the first one alone is free", run(4, 19), 1, []int64{3}, run(3, 20)},
		{"one in the midst alone is free", append(run(3, 9), run(13, 10)...), 1, []int64{12}, run(3, 20)},
		{"just as many as are free", append(run(4, 3), run(8, 14)...), 3, []int64{3, 7, 22}, run(3, 20)},
	}
	for _, c := range cases {
		r := impl.TakeBlocks(c.used, c.n)
		wantTaken(t, c.name, r, c.list, c.then)
		wantWords(t, c.name+", given back", impl.FreeBlocks(r.Used, r.List), c.used)
	}
	full := []struct {
		name string
		used []int64
		n    int64
	}{
		{"none is free", run(3, 20), 1},
		{"none is free, all are asked", run(3, 20), 20},
		{"one fewer is free", run(3, 19), 2},
		{"one fewer is free, those in the midst in use", append(run(4, 3), run(8, 14)...), 4},
		{"one is in use, all are asked", []int64{3}, 20},
		{"the last one is in use, all are asked", []int64{22}, 20},
	}
	for _, c := range full {
		wantTakeCode(t, c.name, impl.TakeBlocks(c.used, c.n), impl.ErrFull)
	}
}

func TestFreeBlocksByHand(t *testing.T) {
	cases := []struct {
		name string
		used []int64
		list []int64
		left []int64
	}{
		{"none of none", nil, nil, nil},
		{"none of some", []int64{4, 9}, nil, []int64{4, 9}},
		{"none of all", run(3, 20), []int64{}, run(3, 20)},
		{"the first one", []int64{3, 9, 22}, []int64{3}, []int64{9, 22}},
		{"one in the midst", []int64{3, 9, 22}, []int64{9}, []int64{3, 22}},
		{"the last one", []int64{3, 9, 22}, []int64{22}, []int64{3, 9}},
		{"some", []int64{3, 9, 22}, []int64{3, 22}, []int64{9}},
		{"all", []int64{3, 9, 22}, []int64{3, 9, 22}, nil},
		{"all 20", run(3, 20), run(3, 20), nil},
		{"all but one", run(3, 20), run(4, 19), []int64{3}},
	}
	for _, c := range cases {
		wantWords(t, c.name, impl.FreeBlocks(c.used, c.list), c.left)
	}
	none := []struct {
		name string
		used []int64
		list []int64
	}{
		{"of no map", nil, []int64{3}},
		{"one ahead of all", []int64{5, 9}, []int64{4}},
		{"one between", []int64{5, 9}, []int64{7}},
		{"one behind all", []int64{5, 9}, []int64{22}},
		{"the first of two", []int64{5, 9}, []int64{4, 9}},
		{"the last of two", []int64{5, 9}, []int64{5, 10}},
		{"one too many", []int64{5, 9}, []int64{5, 7, 9}},
		{"all where one is free", run(3, 19), run(3, 20)},
	}
	for _, c := range none {
		wantIntsCode(t, c.name, impl.FreeBlocks(c.used, c.list), impl.ErrNone)
	}
}

// Each map of one word, with none and with all of the other word's blocks in use, and each 13th of all maps there are.
func TestEachMapIsReadBack(t *testing.T) {
	for bits := range 1 << 10 {
		for _, p := range []plainMap{plainMapOf(bits), plainMapOf(bits << 10), plainMapOf(bits | 1023<<10), plainMapOf(bits<<10 | 1023)} {
			wantMapRead(t, p)
			wantIsUsed(t, p)
		}
	}
	for bits := 0; bits < 1<<20; bits += 13 {
		wantMapRead(t, plainMapOf(bits))
	}
}

// Every word there is, in both places, beside words of a map and one that is of none: a word of no map is the word of none of them.
func TestEachWordIsOfAMapOrNone(t *testing.T) {
	for word := range int64(65536) {
		for _, beside := range []int64{0, 1, 512, 1023, 1024, 65535} {
			for _, words := range [][]int64{{word, beside}, {beside, word}} {
				r := impl.UnpackMap(words)
				if word > 1023 || beside > 1023 {
					wantIntsCode(t, "of no map", r, impl.ErrText)
				} else {
					wantWords(t, "of a map", r, plainMapOf(int(words[0]+words[1]*1024)).blocks(true))
				}
			}
		}
	}
}

// Maps of few, half and nearly all blocks in use: whatever number is asked.
func TestTakeOfManyMaps(t *testing.T) {
	rnd := rand.New(rand.NewSource(41))
	for range 500 {
		for _, bits := range []int{rnd.Intn(1 << 20), rnd.Intn(1<<20) & rnd.Intn(1<<20), rnd.Intn(1<<20) | rnd.Intn(1<<20)} {
			for n := range int64(21) {
				wantTakeOf(t, plainMapOf(bits), n)
			}
		}
	}
}

// Each map of the first six and the last two blocks, and each list of these: the map without the list, or none.
func TestFreeOfManyMaps(t *testing.T) {
	for used := range 1 << 8 {
		p := plainMapOf(used&63 | used>>6<<18)
		for list := range 1 << 8 {
			q := plainMapOf(list&63 | list>>6<<18)
			r := impl.FreeBlocks(p.blocks(true), q.blocks(true))
			if list&^used != 0 {
				wantIntsCode(t, "one is not in use", r, impl.ErrNone)
			} else {
				wantWords(t, "FreeBlocks", r, p.with(q.blocks(true), false).blocks(true))
			}
		}
	}
}

// Many who take and give back: no block is ever of two, and all that nobody has is free.
func TestNoBlockIsOfTwo(t *testing.T) {
	rnd := rand.New(rand.NewSource(42))
	for range 100 {
		var used []int64
		var p plainMap
		had := map[int][]int64{}
		for range 200 {
			who := rnd.Intn(6)
			if len(had[who]) > 0 {
				r := impl.FreeBlocks(used, had[who])
				p = p.with(had[who], false)
				wantWords(t, "given back", r, p.blocks(true))
				used, had[who] = r.List, nil
				continue
			}
			r := wantTakeOf(t, p, rnd.Int63n(9))
			if r.Code != impl.OK {
				continue
			}
			for other, list := range had {
				if slices.ContainsFunc(list, func(at int64) bool { return slices.Contains(r.List, at) }) {
					t.Fatalf("%v is of %d and of %d", r.List, who, other)
				}
			}
			p = p.with(r.List, true)
			used, had[who] = impl.UnpackMap(impl.PackMap(r.Used).List).List, r.List
		}
		wantWords(t, "all of it", impl.IntsResult{List: used}, p.blocks(true))
	}
}

// All 20 blocks are taken one by one, upwards, and given back in any order.
func TestAllBlocksAreTaken(t *testing.T) {
	rnd := rand.New(rand.NewSource(43))
	var used []int64
	for at := int64(3); at <= 22; at++ {
		r := impl.TakeBlocks(used, 1)
		wantTaken(t, "one more", r, []int64{at}, run(3, int(at-2)))
		used = r.Used
	}
	wantTakeCode(t, "all are taken", impl.TakeBlocks(used, 1), impl.ErrFull)
	for _, i := range rnd.Perm(20) {
		at := int64(i + 3)
		used = impl.FreeBlocks(used, []int64{at}).List
		if impl.IsUsed(used, at) {
			t.Errorf("%d is not free", at)
		}
		wantIntsCode(t, "given back twice", impl.FreeBlocks(used, []int64{at}), impl.ErrNone)
	}
	wantWords(t, "all free", impl.IntsResult{List: used}, nil)
}
