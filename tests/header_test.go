package tests

import (
	"math/rand"
	"slices"
	"testing"

	"loop.example/g00311/impl"
)

// Promise 3: a header is read back from its words, of two the newer one counts, and one of which just one half was written is none.

// plainHalf writes a half of a header's block word by word; it asks no bounds.
func plainHalf(h impl.Header) []int64 {
	words := append([]int64{h.Seq, h.Start, int64(len(h.Addrs))}, h.Addrs...)
	return append(words, same(0, 32-len(words))...)
}

func plainPack(h impl.Header) []int64 {
	return slices.Concat(plainHalf(h), plainHalf(h))
}

func goodHeader(h impl.Header) bool {
	wrong := func(addr int64) bool { return addr < 0 || addr > 39 }
	return h.Seq >= 1 && h.Seq <= 65000 && h.Start >= 0 && h.Start <= 23 && len(h.Addrs) <= 24 && !slices.ContainsFunc(h.Addrs, wrong)
}

// plainUnpack takes words within their bounds. It guesses the header that they could be of and packs it, which is another way to the same answer than the program's.
func plainUnpack(words []int64) impl.HeaderResult {
	if len(words) == 64 && words[2] <= 24 {
		h := impl.Header{Seq: words[0], Start: words[1], Addrs: words[3 : 3+words[2]]}
		if goodHeader(h) && slices.Equal(plainPack(h), words) {
			return impl.HeaderResult{Header: h}
		}
	}
	return impl.HeaderResult{Code: impl.ErrText}
}

func sampleHeaders() []impl.Header {
	return []impl.Header{
		{Seq: 1},
		{Seq: 2, Start: 23, Addrs: []int64{0}},
		{Seq: 5, Start: 23, Addrs: []int64{3, 4}},
		{Seq: 6, Start: 0, Addrs: []int64{39, 0, 39, 0}},
		{Seq: 24, Start: 12, Addrs: run(16, 23)},
		{Seq: 255, Start: 11, Addrs: same(0, 24)},
		{Seq: 256, Start: 1, Addrs: run(16, 24)},
		{Seq: 64999, Start: 22, Addrs: run(0, 24)},
		{Seq: 65000, Start: 23, Addrs: same(39, 24)},
	}
}

func mustPack(t *testing.T, h impl.Header) []int64 {
	t.Helper()
	r := impl.PackHeader(h)
	if r.Code != impl.OK {
		t.Fatalf("code %d of %v", r.Code, h)
	}
	return r.List
}

func TestHeaderIsWrittenInBothHalves(t *testing.T) {
	for _, h := range sampleHeaders() {
		wantWords(t, "PackHeader", impl.PackHeader(h), plainPack(h))
	}
	want := append([]int64{5, 23, 2, 3, 4}, same(0, 27)...)
	h := impl.Header{Seq: 5, Start: 23, Addrs: []int64{3, 4}}
	wantWords(t, "word by word", impl.PackHeader(h), slices.Concat(want, want))
}

func TestHeaderIsReadBack(t *testing.T) {
	for _, h := range sampleHeaders() {
		wantHeader(t, "read back", impl.UnpackHeader(mustPack(t, h)), h)
	}
	for start := range int64(24) {
		for n := range 25 {
			h := impl.Header{Seq: 100 + start, Start: start, Addrs: run(start, min(n, 16))}
			h.Addrs = append(h.Addrs, same(start, n-len(h.Addrs))...)
			wantHeader(t, "read back", impl.UnpackHeader(mustPack(t, h)), h)
		}
	}
	for seq := int64(1); seq <= 65000; seq += 7 {
		h := impl.Header{Seq: seq, Start: seq % 24, Addrs: []int64{seq % 40}}
		wantHeader(t, "read back", impl.UnpackHeader(mustPack(t, h)), h)
	}
}

func TestOneWordOfOneHalfChanged(t *testing.T) {
	for _, h := range sampleHeaders() {
		packed := plainPack(h)
		for at, was := range packed {
			for _, word := range []int64{0, 1, 2, 3, 23, 24, 39, 40, was ^ 1, was ^ 256, 65000, 65535} {
				if word == was {
					continue
				}
				words := slices.Clone(packed)
				words[at] = word
				wantHeaderCode(t, "halves that differ", impl.UnpackHeader(words), impl.ErrText)
			}
		}
	}
}

func TestOneWordOfBothHalvesChanged(t *testing.T) {
	for _, h := range sampleHeaders() {
		for at := range 32 {
			for _, word := range []int64{0, 1, 2, 22, 23, 24, 25, 27, 28, 29, 30, 32, 39, 40, 256, 65000, 65001, 65535} {
				words := plainPack(h)
				words[at], words[32+at] = word, word
				wantHeaderResult(t, "both halves", impl.UnpackHeader(words), plainUnpack(words))
			}
		}
	}
}

func TestWordsOfNoHeader(t *testing.T) {
	both := func(words ...int64) []int64 {
		half := append(words, same(0, 32-len(words))...)
		return slices.Concat(half, half)
	}
	full := append([]int64{1, 0, 24}, same(5, 24)...)
	cases := []struct {
		name  string
		words []int64
	}{
		{"no words", nil},
		{"all 0", same(0, 64)},
		{"all the greatest", same(65535, 64)},
		{"Seq 0", both(0, 0, 0)},
		{"Seq 65001", both(65001, 0, 0)},
		{"Seq 65535", both(65535, 0, 0)},
		{"Start 24", both(1, 24, 0)},
		{"Start 65535", both(1, 65535, 0)},
		{"25 addresses told, 24 there", both(append([]int64{1, 0, 25}, same(5, 24)...)...)},
		{"25 addresses", both(append([]int64{1, 0, 25}, same(5, 25)...)...)},
		{"29 addresses", both(append([]int64{1, 0, 29}, same(5, 29)...)...)},
		{"30 addresses told", both(append([]int64{1, 0, 30}, same(5, 29)...)...)},
		{"65535 addresses told", both(1, 0, 65535)},
		{"an address 40", both(1, 0, 2, 5, 40)},
		{"an address 65535", both(1, 0, 1, 65535)},
		{"the last of 24 is 40", both(append([]int64{1, 0, 24}, append(same(5, 23), 40)...)...)},
		{"more addresses than are told", both(1, 0, 1, 5, 6)},
		{"something behind no addresses", both(1, 0, 0, 1)},
		{"something at the end of the halves", both(append([]int64{1, 0, 0}, append(same(0, 28), 1)...)...)},
		{"something behind 24 addresses", both(append(slices.Clone(full), 1)...)},
		{"the first half alone", append(both(1, 0, 0)[:32], same(0, 32)...)},
		{"the second half alone", append(same(0, 32), both(1, 0, 0)[:32]...)},
	}
	for _, c := range cases {
		wantHeaderCode(t, c.name, impl.UnpackHeader(c.words), impl.ErrText)
	}
	wantHeader(t, "24 addresses", impl.UnpackHeader(both(full...)), impl.Header{Seq: 1, Addrs: same(5, 24)})
}

func TestFewerWordsAreNoHeader(t *testing.T) {
	for _, h := range sampleHeaders() {
		for n := range 64 {
			wantHeaderCode(t, "fewer words", impl.UnpackHeader(plainPack(h)[:n]), impl.ErrText)
			wantHeaderCode(t, "fewer words at the front", impl.UnpackHeader(plainPack(h)[64-n:]), impl.ErrText)
		}
	}
}

func TestUnpackAgainstPlainReading(t *testing.T) {
	rnd := rand.New(rand.NewSource(2))
	found := 0
	for range 20000 {
		addrs := make([]int64, rnd.Intn(26))
		for i := range addrs {
			addrs[i] = rnd.Int63n(41)
		}
		words := plainPack(impl.Header{Seq: rnd.Int63n(65100), Start: rnd.Int63n(25), Addrs: addrs})
		if rnd.Intn(4) == 0 {
			at := rnd.Intn(64)
			words[at] = rnd.Int63n(45)
			words[(at+32)%64] = words[at]
		}
		want := plainUnpack(words)
		if want.Code == impl.OK {
			found++
		}
		wantHeaderResult(t, "random words", impl.UnpackHeader(words), want)
	}
	if found < 1000 || found > 19000 {
		t.Errorf("just %d of 20000 words are headers", found)
	}
}

func TestTornHeaderIsNone(t *testing.T) {
	for _, was := range sampleHeaders() {
		for _, next := range sampleHeaders() {
			if was.Seq == next.Seq {
				continue
			}
			old, words := mustPack(t, was), mustPack(t, next)
			for pick, want := range map[int64]impl.HeaderResult{
				impl.KeepNone:   {Header: was},
				impl.KeepAll:    {Header: next},
				impl.KeepFirst:  {Code: impl.ErrText},
				impl.KeepSecond: {Code: impl.ErrText},
			} {
				torn := impl.TearWords(old, words, pick)
				wantHeaderResult(t, "torn", impl.UnpackHeader(torn.List), want)
			}
		}
	}
}

// The halves of two headers may differ in their number alone, or in all but it.
func TestTornHeaderThatIsNearlyTheSame(t *testing.T) {
	h := impl.Header{Seq: 8, Start: 3, Addrs: run(1, 24)}
	others := []impl.Header{{Seq: 10, Start: 3, Addrs: run(1, 24)}, {Seq: 8, Start: 4, Addrs: run(1, 24)}, {Seq: 8, Start: 3, Addrs: run(1, 23)}}
	for _, other := range others {
		for _, pick := range []int64{impl.KeepFirst, impl.KeepSecond} {
			torn := impl.TearWords(mustPack(t, h), mustPack(t, other), pick)
			wantHeaderCode(t, "nearly the same", impl.UnpackHeader(torn.List), impl.ErrText)
		}
	}
	for pick := range int64(4) {
		torn := impl.TearWords(mustPack(t, h), mustPack(t, h), pick)
		wantHeader(t, "the same", impl.UnpackHeader(torn.List), h)
	}
}

func TestTornHeaderOverOtherWords(t *testing.T) {
	for _, h := range sampleHeaders() {
		for _, old := range [][]int64{nil, {9}, run(1, 31), same(0, 64), run(1, 64)} {
			for _, pick := range []int64{impl.KeepFirst, impl.KeepSecond} {
				torn := impl.TearWords(old, mustPack(t, h), pick)
				wantHeaderCode(t, "over other words", impl.UnpackHeader(torn.List), impl.ErrText)
			}
		}
		// Words 0 are filled in between the halves, so here nothing of the first one is missed.
		torn := impl.TearWords(plainHalf(h)[:30], mustPack(t, h), impl.KeepSecond)
		wantHeader(t, "over its own first half", impl.UnpackHeader(torn.List), h)
	}
}

func TestNewerHeaderCounts(t *testing.T) {
	list := sampleHeaders()
	for i, a := range list {
		for j, b := range list {
			want := list[max(i, j)] // their numbers rise
			wantHeader(t, "the newer one", impl.NewestOf(impl.HeaderResult{Header: a}, impl.HeaderResult{Header: b}), want)
		}
	}
}

func TestFirstOfTheSameNumberCounts(t *testing.T) {
	a := impl.Header{Seq: 9, Start: 1, Addrs: []int64{1, 2}}
	b := impl.Header{Seq: 9, Start: 2, Addrs: []int64{3}}
	wantHeader(t, "the first", impl.NewestOf(impl.HeaderResult{Header: a}, impl.HeaderResult{Header: b}), a)
	wantHeader(t, "the first", impl.NewestOf(impl.HeaderResult{Header: b}, impl.HeaderResult{Header: a}), b)
}

// diskOf is a disk of 66 blocks whose first two are these.
func diskOf(first []int64, second []int64) impl.Disk {
	d := emptyDisk(66)
	d.Blocks[0], d.Blocks[1] = first, second
	return d
}

func TestNewerHeaderOfADiskCounts(t *testing.T) {
	for _, seqs := range [][2]int64{{2, 1}, {2, 3}, {4, 1}, {64998, 64999}, {65000, 64999}, {256, 255}, {10, 9}, {8, 11}} {
		even := impl.Header{Seq: seqs[0], Start: 4, Addrs: []int64{1}}
		odd := impl.Header{Seq: seqs[1], Start: 5, Addrs: []int64{2, 3}}
		want := even
		if odd.Seq > even.Seq {
			want = odd
		}
		wantHeader(t, "both", impl.HeaderIn(diskOf(mustPack(t, even), mustPack(t, odd))), want)
		wantHeader(t, "the even one alone", impl.HeaderIn(diskOf(mustPack(t, even), nil)), even)
		wantHeader(t, "the odd one alone", impl.HeaderIn(diskOf(nil, mustPack(t, odd))), odd)
	}
}

func TestHeaderAtTheOtherBlockIsNone(t *testing.T) {
	for _, h := range sampleHeaders() {
		words := mustPack(t, h)
		right, wrong := diskOf(words, nil), diskOf(nil, words)
		if h.Seq%2 == 1 {
			right, wrong = wrong, right
		}
		wantHeader(t, "at its block", impl.HeaderIn(right), h)
		wantHeader(t, "at both blocks", impl.HeaderIn(diskOf(words, words)), h)
		wantHeaderCode(t, "at the other block", impl.HeaderIn(wrong), impl.ErrNone)
	}
	old, newer := impl.Header{Seq: 4, Addrs: []int64{1}}, impl.Header{Seq: 6, Addrs: []int64{2}}
	wantHeader(t, "the newer one at the other block", impl.HeaderIn(diskOf(mustPack(t, old), mustPack(t, newer))), old)
	old, newer = impl.Header{Seq: 3, Addrs: []int64{1}}, impl.Header{Seq: 7, Addrs: []int64{2}}
	wantHeader(t, "the newer one at the other block", impl.HeaderIn(diskOf(mustPack(t, newer), mustPack(t, old))), old)
	wantHeaderCode(t, "each at the other's", impl.HeaderIn(diskOf(mustPack(t, newer), mustPack(t, impl.Header{Seq: 6}))), impl.ErrNone)
}

func TestHeadersOfOtherBlocksDoNotCount(t *testing.T) {
	d := diskOf(mustPack(t, impl.Header{Seq: 2}), nil)
	for at := 2; at < 66; at++ {
		d.Blocks[at] = mustPack(t, impl.Header{Seq: 100 + int64(at)})
	}
	wantHeader(t, "slots and home blocks hold headers", impl.HeaderIn(d), impl.Header{Seq: 2})
	d.Blocks[0] = nil
	wantHeaderCode(t, "slots and home blocks alone", impl.HeaderIn(d), impl.ErrNone)
}

func TestHeaderThatWasPutAndNotFlushed(t *testing.T) {
	old, newer := impl.Header{Seq: 4, Start: 1, Addrs: []int64{1}}, impl.Header{Seq: 5, Start: 2, Addrs: []int64{2}}
	d := diskOf(mustPack(t, old), nil)
	put := mustDisk(t, impl.PutBlock(d, 1, mustPack(t, newer)))
	wantHeader(t, "put", impl.HeaderIn(put), newer)
	wantHeader(t, "flushed", impl.HeaderIn(mustDisk(t, impl.FlushDisk(put))), newer)
	wantHeader(t, "lost", impl.HeaderIn(mustDisk(t, impl.CrashDisk(put, nil))), old)

	gone := mustDisk(t, impl.PutBlock(put, 1, []int64{1}))
	wantHeader(t, "other words put over it", impl.HeaderIn(gone), old)
	gone = mustDisk(t, impl.PutBlock(gone, 0, nil))
	wantHeaderCode(t, "nothing put over the other", impl.HeaderIn(gone), impl.ErrNone)
	back := mustDisk(t, impl.PutBlock(gone, 0, mustPack(t, old)))
	wantHeader(t, "the last put counts", impl.HeaderIn(back), old)
	elsewhere := mustDisk(t, impl.PutBlock(d, 2, mustPack(t, newer)))
	wantHeader(t, "put at a slot", impl.HeaderIn(elsewhere), old)
}

// A header is written over the one two numbers below it, beside the one that counts.
func TestCrashOfAHeaderOnADisk(t *testing.T) {
	for _, seq := range []int64{4, 5, 255, 256, 64999, 65000} {
		d := emptyDisk(66)
		var list []impl.Header
		for i := range int64(3) {
			h := impl.Header{Seq: seq - 2 + i, Start: i, Addrs: run(10*i, 4+int(i))}
			list = append(list, h)
			d = mustDisk(t, impl.PutBlock(d, h.Seq%2, mustPack(t, h)))
			if i < 2 {
				d = mustDisk(t, impl.FlushDisk(d))
			}
		}
		for pick := range int64(4) {
			want := list[1]
			if pick == impl.KeepAll {
				want = list[2]
			}
			crashed := mustDisk(t, impl.CrashDisk(d, []int64{pick}))
			wantHeader(t, "crashed", impl.HeaderIn(crashed), want)
		}
	}
}

// plainHeaderIn takes a disk of 66 blocks that has no fault.
func plainHeaderIn(d impl.Disk) impl.HeaderResult {
	found := impl.HeaderResult{Code: impl.ErrNone}
	for at := range int64(2) {
		words := d.Blocks[at]
		for _, p := range d.Cache {
			if p.At == at {
				words = p.Words
			}
		}
		r := plainUnpack(words)
		if r.Code == impl.OK && r.Header.Seq%2 == at && (found.Code != impl.OK || r.Header.Seq > found.Header.Seq) {
			found = r
		}
	}
	return found
}

func TestHeaderInAgainstPlainReading(t *testing.T) {
	rnd := rand.New(rand.NewSource(3))
	words := func() []int64 {
		a := impl.Header{Seq: 1 + rnd.Int63n(6), Start: rnd.Int63n(24), Addrs: run(rnd.Int63n(16), rnd.Intn(25))}
		b := impl.Header{Seq: 1 + rnd.Int63n(6), Start: rnd.Int63n(24)}
		return tornByWord(plainPack(a), plainPack(b), []int64{0, 0, 0, 1, 1, 2, 3}[rnd.Intn(7)])
	}
	codes := map[int64]int{}
	for range 3000 {
		d := diskOf(words(), words())
		for range rnd.Intn(4) {
			d.Cache = append(d.Cache, impl.Put{At: rnd.Int63n(3), Words: words()})
		}
		want := plainHeaderIn(d)
		codes[want.Code]++
		wantHeaderResult(t, "random disk", impl.HeaderIn(d), want)
	}
	if codes[impl.OK] < 300 || codes[impl.ErrNone] < 300 {
		t.Errorf("not both are asked: %v", codes)
	}
}
