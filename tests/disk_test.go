package tests

import (
	"math"
	"math/rand"
	"slices"
	"testing"

	"loop.example/g00311/impl"
)

// Promise 2: what was put last is read, what was flushed stays, and of what was not just what was picked.

func TestNewDiskHasSoManyEmptyBlocks(t *testing.T) {
	for _, size := range []int64{0, 1, 2, 69, 70} {
		d := mustDisk(t, impl.NewDisk(size))
		if int64(len(d.Blocks)) != size || len(d.Cache) != 0 || impl.DiskFault(d) != impl.OK {
			t.Errorf("size %d: %v", size, d)
		}
		for at := range size {
			wantWords(t, "a new block", impl.BlockAt(d, at), nil)
		}
		wantIntsCode(t, "behind the last block", impl.BlockAt(d, size), impl.ErrRange)
	}
}

func TestNewDiskRange(t *testing.T) {
	for _, size := range []int64{-1, 71, math.MinInt64, math.MaxInt64} {
		wantDiskCode(t, "NewDisk", impl.NewDisk(size), impl.ErrRange)
	}
}

func TestLastPutIsRead(t *testing.T) {
	d := mustDisk(t, impl.NewDisk(3))
	d = mustDisk(t, impl.PutBlock(d, 0, run(10, 2)))
	d = mustDisk(t, impl.PutBlock(d, 2, run(20, 64)))
	d = mustDisk(t, impl.PutBlock(d, 0, run(30, 1)))
	wantWords(t, "put twice", impl.BlockAt(d, 0), []int64{30})
	wantWords(t, "never put", impl.BlockAt(d, 1), nil)
	wantWords(t, "put once", impl.BlockAt(d, 2), run(20, 64))
	want := []impl.Put{{At: 0, Words: []int64{10, 11}}, {At: 2, Words: run(20, 64)}, {At: 0, Words: []int64{30}}}
	if !samePuts(d.Cache, want) {
		t.Errorf("cache %v", d.Cache)
	}
	if !sameBlocks(d.Blocks, make([][]int64, 3)) {
		t.Errorf("blocks were written ahead of a flush: %v", d.Blocks)
	}
}

func TestPutWithoutWordsIsRead(t *testing.T) {
	d := impl.Disk{Blocks: [][]int64{{1, 2}}}
	d = mustDisk(t, impl.PutBlock(d, 0, nil))
	wantWords(t, "in cache", impl.BlockAt(d, 0), nil)
	wantWords(t, "flushed", impl.BlockAt(mustDisk(t, impl.FlushDisk(d)), 0), nil)
	wantWords(t, "crashed", impl.BlockAt(mustDisk(t, impl.CrashDisk(d, nil)), 0), []int64{1, 2})
	if len(d.Cache) != 1 {
		t.Errorf("a put without words is a put: %v", d.Cache)
	}
}

func TestFlushPutsAllInOrder(t *testing.T) {
	d := impl.Disk{
		Blocks: [][]int64{{1}, {2}, {3}},
		Cache:  []impl.Put{{At: 1, Words: run(5, 3)}, {At: 0, Words: []int64{6}}, {At: 1, Words: []int64{7}}},
	}
	f := mustDisk(t, impl.FlushDisk(d))
	if !sameDisks(f, impl.Disk{Blocks: [][]int64{{6}, {7}, {3}}}) {
		t.Errorf("flushed: %v", f)
	}
	if again := mustDisk(t, impl.FlushDisk(f)); !sameDisks(again, f) {
		t.Errorf("flushed twice: %v", again)
	}
}

func TestFlushedStays(t *testing.T) {
	d := mustDisk(t, impl.NewDisk(2))
	d = mustDisk(t, impl.FlushDisk(mustDisk(t, impl.PutBlock(d, 1, run(9, 40)))))
	for pick := range int64(4) {
		c := mustDisk(t, impl.CrashDisk(d, same(pick, 200)))
		if !sameDisks(c, d) {
			t.Errorf("pick %d: %v", pick, c)
		}
	}
	d = mustDisk(t, impl.PutBlock(d, 0, []int64{1}))
	wantWords(t, "beside another put", impl.BlockAt(mustDisk(t, impl.CrashDisk(d, []int64{impl.KeepAll})), 1), run(9, 40))
}

func TestCrashKeepsWhatWasPicked(t *testing.T) {
	d := impl.Disk{
		Blocks: [][]int64{run(1000, 40), run(2000, 40), run(3000, 40), run(4000, 40), run(5000, 40)},
		Cache: []impl.Put{
			{At: 3, Words: run(400, 64)}, {At: 0, Words: run(100, 64)}, {At: 2, Words: run(300, 64)}, {At: 1, Words: run(200, 64)},
		},
	}
	c := mustDisk(t, impl.CrashDisk(d, []int64{impl.KeepSecond, impl.KeepNone, impl.KeepFirst, impl.KeepAll}))
	want := impl.Disk{Blocks: [][]int64{
		run(1000, 40),
		run(200, 64),
		slices.Concat(run(300, 32), run(3032, 8)),
		slices.Concat(run(4000, 32), run(432, 32)),
		run(5000, 40),
	}}
	if !sameDisks(c, want) {
		t.Errorf("crashed: %v, want %v", c, want)
	}
}

func TestCrashOfABlockPutTwice(t *testing.T) {
	old, one, two := run(1000, 64), run(2000, 64), run(3000, 64)
	d := impl.Disk{Blocks: [][]int64{old}, Cache: []impl.Put{{At: 0, Words: one}, {At: 0, Words: two}}}
	for p := range int64(4) {
		for q := range int64(4) {
			c := mustDisk(t, impl.CrashDisk(d, []int64{p, q}))
			want := tornByWord(tornByWord(old, one, p), two, q)
			wantWords(t, "put twice", impl.BlockAt(c, 0), want)
			if len(c.Cache) != 0 {
				t.Errorf("picks %d %d: cache %v", p, q, c.Cache)
			}
		}
	}
	c := mustDisk(t, impl.CrashDisk(d, []int64{impl.KeepFirst, impl.KeepSecond}))
	wantWords(t, "a half of each", impl.BlockAt(c, 0), slices.Concat(one[:32], two[32:]))
}

func TestCrashWithFewerOrMorePicks(t *testing.T) {
	d := impl.Disk{Blocks: [][]int64{{1}, {2}, {3}}, Cache: []impl.Put{{At: 0, Words: []int64{7}}, {At: 1, Words: []int64{8}}, {At: 2, Words: []int64{9}}}}
	all := same(impl.KeepAll, 200)
	for n, want := range [][][]int64{{{1}, {2}, {3}}, {{7}, {2}, {3}}, {{7}, {8}, {3}}, {{7}, {8}, {9}}, {{7}, {8}, {9}}} {
		c := mustDisk(t, impl.CrashDisk(d, all[:n]))
		if !sameDisks(c, impl.Disk{Blocks: want}) {
			t.Errorf("%d picks: %v, want %v", n, c, want)
		}
	}
	if c := mustDisk(t, impl.CrashDisk(d, all)); !sameDisks(c, mustDisk(t, impl.FlushDisk(d))) {
		t.Errorf("200 picks: %v", c)
	}
}

func TestCrashOfAFullCache(t *testing.T) {
	d := impl.Disk{Blocks: make([][]int64, 1), Cache: putsAt(0, 200)}
	picks := same(impl.KeepNone, 200)
	picks[199] = impl.KeepAll
	wantWords(t, "the last pick", impl.BlockAt(mustDisk(t, impl.CrashDisk(d, picks)), 0), []int64{199})
	picks[199], picks[198] = impl.KeepNone, impl.KeepAll
	wantWords(t, "the one ahead of it", impl.BlockAt(mustDisk(t, impl.CrashDisk(d, picks)), 0), []int64{198})
}

// tornByWord tells place by place where a word comes from; it is another way to the same answer than the program's.
func tornByWord(old []int64, next []int64, pick int64) []int64 {
	firstFrom, secondFrom := old, old
	if pick == impl.KeepAll || pick == impl.KeepFirst {
		firstFrom = next
	}
	if pick == impl.KeepAll || pick == impl.KeepSecond {
		secondFrom = next
	}
	if len(secondFrom) <= 32 {
		return slices.Clone(firstFrom[:min(32, len(firstFrom))])
	}
	list := make([]int64, len(secondFrom))
	copy(list, firstFrom[:min(32, len(firstFrom))])
	copy(list[32:], secondFrom[32:])
	return list
}

func TestTearOfAllLengthsAndPicks(t *testing.T) {
	for n := range 65 {
		for m := range 65 {
			for pick := range int64(4) {
				old, next := run(1000, n), run(2000, m)
				r := impl.TearWords(old, next, pick)
				if want := tornByWord(old, next, pick); r.Code != impl.OK || !slices.Equal(r.List, want) {
					t.Fatalf("%d words over %d, pick %d: %v, want %v", m, n, pick, r, want)
				}
			}
		}
	}
}

func TestTearOfShortHalves(t *testing.T) {
	long, short := run(1000, 40), []int64{7, 8}
	cases := []struct {
		name      string
		old, next []int64
		pick      int64
		want      []int64
	}{
		{"short over long, none", long, short, impl.KeepNone, long},
		{"short over long, all", long, short, impl.KeepAll, short},
		{"short over long, first", long, short, impl.KeepFirst, slices.Concat(short, same(0, 30), run(1032, 8))},
		{"short over long, second", long, short, impl.KeepSecond, run(1000, 32)},
		{"long over short, none", short, long, impl.KeepNone, short},
		{"long over short, all", short, long, impl.KeepAll, long},
		{"long over short, first", short, long, impl.KeepFirst, run(1000, 32)},
		{"long over short, second", short, long, impl.KeepSecond, slices.Concat(short, same(0, 30), run(1032, 8))},
		{"short over short, first", []int64{1, 2, 3}, short, impl.KeepFirst, short},
		{"short over short, second", []int64{1, 2, 3}, short, impl.KeepSecond, []int64{1, 2, 3}},
		{"nothing over long, first", long, nil, impl.KeepFirst, slices.Concat(same(0, 32), run(1032, 8))},
		{"nothing over long, second", long, nil, impl.KeepSecond, run(1000, 32)},
		{"long over nothing, first", nil, long, impl.KeepFirst, run(1000, 32)},
		{"long over nothing, second", nil, long, impl.KeepSecond, slices.Concat(same(0, 32), run(1032, 8))},
		{"nothing over short, first", short, nil, impl.KeepFirst, nil},
		{"nothing over short, second", short, nil, impl.KeepSecond, short},
		{"nothing over nothing", nil, nil, impl.KeepFirst, nil},
		{"one word in the second half", run(1, 33), nil, impl.KeepFirst, slices.Concat(same(0, 32), []int64{33})},
		{"words 0 and 65535 are words", same(0, 64), same(65535, 64), impl.KeepSecond, slices.Concat(same(0, 32), same(65535, 32))},
		{"words 0 at the end stay", same(0, 40), same(0, 5), impl.KeepSecond, same(0, 32)},
	}
	for _, c := range cases {
		wantWords(t, c.name, impl.TearWords(c.old, c.next, c.pick), c.want)
		d := impl.Disk{Blocks: [][]int64{c.old}, Cache: []impl.Put{{At: 0, Words: c.next}}}
		wantWords(t, "crash: "+c.name, impl.BlockAt(mustDisk(t, impl.CrashDisk(d, []int64{c.pick})), 0), c.want)
	}
}

// model keeps what a disk has to tell in the plainest way.
type model struct {
	flushed [][]int64
	puts    []impl.Put
}

func (m *model) put(at int64, words []int64) {
	m.puts = append(m.puts, impl.Put{At: at, Words: words})
}

func (m *model) crash(picks []int64) {
	for i, p := range m.puts {
		pick := int64(impl.KeepNone)
		if i < len(picks) {
			pick = picks[i]
		}
		m.flushed[p.At] = tornByWord(m.flushed[p.At], p.Words, pick)
	}
	m.puts = nil
}

func (m *model) read(at int64) []int64 {
	words := m.flushed[at]
	for _, p := range m.puts {
		if p.At == at {
			words = p.Words
		}
	}
	return words
}

func TestDiskAgainstAModel(t *testing.T) {
	rnd := rand.New(rand.NewSource(1))
	for range 60 {
		size := 1 + rnd.Intn(6)
		d := mustDisk(t, impl.NewDisk(int64(size)))
		m := &model{flushed: make([][]int64, size)}
		for range 60 {
			switch rnd.Intn(8) {
			case 0:
				d = mustDisk(t, impl.FlushDisk(d))
				m.crash(same(impl.KeepAll, 200))
			case 1:
				picks := make([]int64, rnd.Intn(len(m.puts)+3))
				for i := range picks {
					picks[i] = rnd.Int63n(4)
				}
				d = mustDisk(t, impl.CrashDisk(d, picks))
				m.crash(picks)
			default:
				at, words := rnd.Int63n(int64(size)), run(rnd.Int63n(60000), rnd.Intn(65))
				d = mustDisk(t, impl.PutBlock(d, at, words))
				m.put(at, words)
			}
			for at := range int64(size) {
				wantWords(t, "read", impl.BlockAt(d, at), m.read(at))
			}
			if impl.DiskFault(d) != impl.OK || !sameDisks(d, impl.Disk{Blocks: m.flushed, Cache: m.puts}) {
				t.Fatalf("disk %v, want %v", d, m)
			}
		}
	}
}
