package tests

import (
	"math"
	"slices"
	"testing"

	"loop.example/g00311/impl"
)

// Promise 1: every function answers at every argument. Here: which code, and which of two comes first.

type wordsCase struct {
	name  string
	words []int64
	code  int64
}

func wordsCases() []wordsCase {
	return []wordsCase{
		{"no words", nil, impl.OK},
		{"an empty list", []int64{}, impl.OK},
		{"64 words", same(1, 64), impl.OK},
		{"65 words", same(1, 65), impl.ErrMany},
		{"1000 words", same(1, 1000), impl.ErrMany},
		{"word -1", []int64{-1}, impl.ErrRange},
		{"word 0", []int64{0}, impl.OK},
		{"word 65535", []int64{65535}, impl.OK},
		{"word 65536", []int64{65536}, impl.ErrRange},
		{"the least word", []int64{1, math.MinInt64}, impl.ErrRange},
		{"the greatest word", []int64{1, math.MaxInt64}, impl.ErrRange},
		{"the last of 64 is wrong", append(same(1, 63), 65536), impl.ErrRange},
		{"65 words and the first is wrong", append([]int64{-1}, same(1, 64)...), impl.ErrMany},
		{"65 words and the last is wrong", append(same(1, 64), -1), impl.ErrMany},
	}
}

func TestWordsOfADisk(t *testing.T) {
	for _, c := range wordsCases() {
		inBlock := impl.Disk{Blocks: [][]int64{{1}, c.words, {2}}}
		inCache := impl.Disk{Blocks: make([][]int64, 2), Cache: []impl.Put{{At: 0}, {At: 1, Words: c.words}}}
		for _, d := range []impl.Disk{inBlock, inCache} {
			if code := impl.DiskFault(d); code != c.code {
				t.Errorf("%s: DiskFault %d, want %d", c.name, code, c.code)
			}
			wantDiskCode(t, c.name, impl.FlushDisk(d), c.code)
			wantDiskCode(t, c.name, impl.CrashDisk(d, nil), c.code)
			wantDiskCode(t, c.name, impl.PutBlock(d, 0, nil), c.code)
			wantIntsCode(t, c.name, impl.BlockAt(d, 0), c.code)
		}
	}
}

func TestWordsOfAPut(t *testing.T) {
	for _, c := range wordsCases() {
		wantDiskCode(t, c.name, impl.PutBlock(emptyDisk(1), 0, c.words), c.code)
	}
}

func TestWordsOfATear(t *testing.T) {
	for _, c := range wordsCases() {
		for pick := range int64(4) {
			wantIntsCode(t, "old: "+c.name, impl.TearWords(c.words, nil, pick), c.code)
			wantIntsCode(t, "next: "+c.name, impl.TearWords(nil, c.words, pick), c.code)
		}
	}
}

func TestTearCodesInOrder(t *testing.T) {
	many, bad := same(1, 65), []int64{-1}
	cases := []struct {
		name      string
		old, next []int64
		pick      int64
		code      int64
	}{
		{"pick -1", nil, nil, -1, impl.ErrRange},
		{"pick 0", nil, nil, 0, impl.OK},
		{"pick 3", nil, nil, 3, impl.OK},
		{"pick 4", nil, nil, 4, impl.ErrRange},
		{"the least pick", nil, nil, math.MinInt64, impl.ErrRange},
		{"the greatest pick", nil, nil, math.MaxInt64, impl.ErrRange},
		{"a bad word of old ahead of many of next", bad, many, 0, impl.ErrRange},
		{"many of old ahead of a bad word of next", many, bad, 0, impl.ErrMany},
		{"many of next ahead of pick", nil, many, 4, impl.ErrMany},
		{"many of old ahead of pick", many, nil, 4, impl.ErrMany},
		{"next is asked though it is not kept", nil, many, impl.KeepNone, impl.ErrMany},
		{"old is asked though it is not kept", many, nil, impl.KeepAll, impl.ErrMany},
	}
	for _, c := range cases {
		wantIntsCode(t, c.name, impl.TearWords(c.old, c.next, c.pick), c.code)
	}
}

type diskCase struct {
	name string
	disk impl.Disk
	code int64
}

func diskCases() []diskCase {
	many, bad := same(1, 65), []int64{-1}
	one := make([][]int64, 1)
	return []diskCase{
		{"the zero value", impl.Disk{}, impl.OK},
		{"70 blocks", emptyDisk(70), impl.OK},
		{"71 blocks", emptyDisk(71), impl.ErrMany},
		{"200 in cache", impl.Disk{Blocks: one, Cache: putsAt(0, 200)}, impl.OK},
		{"201 in cache", impl.Disk{Blocks: one, Cache: putsAt(0, 201)}, impl.ErrMany},
		{"71 blocks ahead of a word", impl.Disk{Blocks: append([][]int64{bad}, make([][]int64, 70)...)}, impl.ErrMany},
		{"201 in cache ahead of a word", impl.Disk{Blocks: [][]int64{bad}, Cache: putsAt(0, 201)}, impl.ErrMany},
		{"201 in cache ahead of a place", impl.Disk{Cache: putsAt(0, 201)}, impl.ErrMany},
		{"at ahead of the first", impl.Disk{Blocks: one, Cache: putsAt(-1, 1)}, impl.ErrRange},
		{"at the last", impl.Disk{Blocks: make([][]int64, 5), Cache: putsAt(4, 1)}, impl.OK},
		{"at behind the last", impl.Disk{Blocks: make([][]int64, 5), Cache: putsAt(5, 1)}, impl.ErrRange},
		{"at the least number", impl.Disk{Blocks: one, Cache: putsAt(math.MinInt64, 1)}, impl.ErrRange},
		{"at the greatest number", impl.Disk{Blocks: one, Cache: putsAt(math.MaxInt64, 1)}, impl.ErrRange},
		{"a put on no disk", impl.Disk{Cache: putsAt(0, 1)}, impl.ErrRange},
		{"block by block: a word ahead of many", impl.Disk{Blocks: [][]int64{bad, many}}, impl.ErrRange},
		{"block by block: many ahead of a word", impl.Disk{Blocks: [][]int64{many, bad}}, impl.ErrMany},
		{"blocks ahead of a place", impl.Disk{Blocks: [][]int64{many}, Cache: putsAt(9, 1)}, impl.ErrMany},
		{"a place ahead of many", impl.Disk{Blocks: one, Cache: []impl.Put{{At: 1, Words: many}}}, impl.ErrRange},
		{"put by put: many ahead of a place", impl.Disk{Blocks: one, Cache: []impl.Put{{At: 0, Words: many}, {At: 1}}}, impl.ErrMany},
		{"put by put: a word ahead of many", impl.Disk{Blocks: one, Cache: []impl.Put{{At: 0, Words: bad}, {At: 0, Words: many}}}, impl.ErrRange},
		{"blocks ahead of puts", impl.Disk{Blocks: [][]int64{nil, bad}, Cache: []impl.Put{{At: 0, Words: many}}}, impl.ErrRange},
	}
}

func TestDiskFaultCodes(t *testing.T) {
	for _, c := range diskCases() {
		if code := impl.DiskFault(c.disk); code != c.code {
			t.Errorf("%s: %d, want %d", c.name, code, c.code)
		}
	}
}

func TestTheOthersAskTheDiskFaultFirst(t *testing.T) {
	for _, c := range diskCases() {
		if c.code == impl.OK {
			continue
		}
		for _, words := range [][]int64{nil, same(1, 65), {-1}} {
			for _, at := range []int64{0, -1, 1000} {
				wantDiskCode(t, "PutBlock: "+c.name, impl.PutBlock(c.disk, at, words), c.code)
				wantIntsCode(t, "BlockAt: "+c.name, impl.BlockAt(c.disk, at), c.code)
			}
		}
		for _, picks := range [][]int64{nil, same(0, 201), {4}} {
			wantDiskCode(t, "CrashDisk: "+c.name, impl.CrashDisk(c.disk, picks), c.code)
		}
		wantDiskCode(t, "FlushDisk: "+c.name, impl.FlushDisk(c.disk), c.code)
	}
}

func TestPlacesOfADisk(t *testing.T) {
	for _, size := range []int{0, 1, 5, 70} {
		for _, at := range []int64{math.MinInt64, -1, 0, 4, 5, 69, 70, math.MaxInt64} {
			code := int64(impl.ErrRange)
			if at >= 0 && at < int64(size) {
				code = impl.OK
			}
			wantDiskCode(t, "PutBlock", impl.PutBlock(emptyDisk(size), at, []int64{1}), code)
			wantIntsCode(t, "BlockAt", impl.BlockAt(emptyDisk(size), at), code)
		}
	}
}

func TestPutCodesInOrder(t *testing.T) {
	many, bad := same(1, 65), []int64{-1}
	full := impl.Disk{Blocks: make([][]int64, 1), Cache: putsAt(0, 200)}
	wantDiskCode(t, "a place ahead of many", impl.PutBlock(emptyDisk(1), 1, many), impl.ErrRange)
	wantDiskCode(t, "a place ahead of a full cache", impl.PutBlock(full, 1, nil), impl.ErrRange)
	wantDiskCode(t, "a word ahead of a full cache", impl.PutBlock(full, 0, bad), impl.ErrRange)
	wantDiskCode(t, "a full cache", impl.PutBlock(full, 0, []int64{1}), impl.ErrMany)
	wantDiskCode(t, "a full cache, no words", impl.PutBlock(full, 0, nil), impl.ErrMany)
	wantWords(t, "a full cache is read", impl.BlockAt(full, 0), []int64{199})

	last := impl.Disk{Blocks: make([][]int64, 1), Cache: putsAt(0, 199)}
	d := mustDisk(t, impl.PutBlock(last, 0, []int64{7}))
	if len(d.Cache) != 200 || impl.DiskFault(d) != impl.OK {
		t.Errorf("199 and one more: %d in cache", len(d.Cache))
	}
	flushed := mustDisk(t, impl.FlushDisk(full))
	wantDiskCode(t, "room again behind a flush", impl.PutBlock(flushed, 0, nil), impl.OK)
}

func TestCrashCodesInOrder(t *testing.T) {
	cases := []struct {
		name  string
		picks []int64
		code  int64
	}{
		{"no picks", nil, impl.OK},
		{"200 picks", same(3, 200), impl.OK},
		{"201 picks", same(0, 201), impl.ErrMany},
		{"pick -1", []int64{-1}, impl.ErrRange},
		{"pick 4", []int64{4}, impl.ErrRange},
		{"the least pick", []int64{math.MinInt64}, impl.ErrRange},
		{"the greatest pick", []int64{math.MaxInt64}, impl.ErrRange},
		{"a pick behind the end of cache", []int64{0, 1, 2, 3, 4}, impl.ErrRange},
		{"the last of 200", append(same(0, 199), 4), impl.ErrRange},
		{"201 picks ahead of a pick", append([]int64{4}, same(0, 200)...), impl.ErrMany},
	}
	d := impl.Disk{Blocks: make([][]int64, 1), Cache: putsAt(0, 2)}
	for _, c := range cases {
		wantDiskCode(t, c.name, impl.CrashDisk(d, c.picks), c.code)
		wantDiskCode(t, "no disk: "+c.name, impl.CrashDisk(impl.Disk{}, c.picks), c.code)
	}
}

func TestNilAndEmptyAreTheSame(t *testing.T) {
	a := impl.Disk{Blocks: [][]int64{nil}, Cache: []impl.Put{{At: 0, Words: nil}}}
	b := impl.Disk{Blocks: [][]int64{{}}, Cache: []impl.Put{{At: 0, Words: []int64{}}}}
	if impl.DiskFault(a) != impl.DiskFault(b) {
		t.Error("DiskFault")
	}
	if !slices.Equal(impl.BlockAt(a, 0).List, impl.BlockAt(b, 0).List) {
		t.Error("BlockAt")
	}
	if !sameDisks(impl.PutBlock(a, 0, nil).Disk, impl.PutBlock(b, 0, []int64{}).Disk) {
		t.Error("PutBlock")
	}
	if !sameDisks(impl.CrashDisk(a, nil).Disk, impl.CrashDisk(b, []int64{}).Disk) {
		t.Error("CrashDisk")
	}
	wantDiskCode(t, "flush of nothing", impl.FlushDisk(impl.Disk{Blocks: [][]int64{}, Cache: []impl.Put{}}), impl.OK)
}
