package tests

import (
	"math"
	"testing"

	"loop.example/g00311/impl"
)

// Promise 1: the functions of headers answer at every argument. Here: which code, and which of two comes first.

type headerCase struct {
	name   string
	header impl.Header
	code   int64
}

func headerCases() []headerCase {
	return []headerCase{
		{"the zero value", impl.Header{}, impl.ErrRange},
		{"the least Seq", impl.Header{Seq: math.MinInt64}, impl.ErrRange},
		{"Seq -1", impl.Header{Seq: -1}, impl.ErrRange},
		{"Seq 0", impl.Header{Seq: 0, Start: 1, Addrs: []int64{1}}, impl.ErrRange},
		{"Seq 1", impl.Header{Seq: 1}, impl.OK},
		{"Seq 65000", impl.Header{Seq: 65000}, impl.OK},
		{"Seq 65001", impl.Header{Seq: 65001}, impl.ErrRange},
		{"Seq 65537", impl.Header{Seq: 65537}, impl.ErrRange},
		{"the greatest Seq", impl.Header{Seq: math.MaxInt64}, impl.ErrRange},
		{"the least Start", impl.Header{Seq: 1, Start: math.MinInt64}, impl.ErrRange},
		{"Start -1", impl.Header{Seq: 1, Start: -1}, impl.ErrRange},
		{"Start 0", impl.Header{Seq: 1, Start: 0}, impl.OK},
		{"Start 23", impl.Header{Seq: 1, Start: 23}, impl.OK},
		{"Start 24", impl.Header{Seq: 1, Start: 24}, impl.ErrRange},
		{"the greatest Start", impl.Header{Seq: 1, Start: math.MaxInt64}, impl.ErrRange},
		{"no Addrs", impl.Header{Seq: 1, Addrs: []int64{}}, impl.OK},
		{"24 Addrs", impl.Header{Seq: 1, Addrs: same(5, 24)}, impl.OK},
		{"25 Addrs", impl.Header{Seq: 1, Addrs: same(5, 25)}, impl.ErrMany},
		{"65536 Addrs", impl.Header{Seq: 1, Addrs: same(0, 65536)}, impl.ErrMany},
		{"address -1", impl.Header{Seq: 1, Addrs: []int64{-1}}, impl.ErrRange},
		{"address 0", impl.Header{Seq: 1, Addrs: []int64{0}}, impl.OK},
		{"address 39", impl.Header{Seq: 1, Addrs: []int64{39}}, impl.OK},
		{"address 40", impl.Header{Seq: 1, Addrs: []int64{40}}, impl.ErrRange},
		{"the least address", impl.Header{Seq: 1, Addrs: []int64{3, math.MinInt64}}, impl.ErrRange},
		{"the greatest address", impl.Header{Seq: 1, Addrs: []int64{3, math.MaxInt64}}, impl.ErrRange},
		{"the last of 24 is wrong", impl.Header{Seq: 1, Addrs: append(same(5, 23), 40)}, impl.ErrRange},
		{"an address twice", impl.Header{Seq: 1, Addrs: []int64{7, 7}}, impl.OK},
		{"Addrs that fall", impl.Header{Seq: 1, Addrs: []int64{9, 8, 7}}, impl.OK},
		{"Seq ahead of many", impl.Header{Seq: 0, Addrs: same(5, 25)}, impl.ErrRange},
		{"Start ahead of many", impl.Header{Seq: 1, Start: 24, Addrs: same(5, 25)}, impl.ErrRange},
		{"many ahead of an address", impl.Header{Seq: 1, Addrs: append([]int64{-1}, same(5, 24)...)}, impl.ErrMany},
		{"many ahead of the last address", impl.Header{Seq: 1, Addrs: append(same(5, 24), 40)}, impl.ErrMany},
	}
}

func TestHeaderFaultCodes(t *testing.T) {
	for _, c := range headerCases() {
		if code := impl.HeaderFault(c.header); code != c.code {
			t.Errorf("%s: %d, want %d", c.name, code, c.code)
		}
	}
}

func TestPackAsksTheHeaderFault(t *testing.T) {
	for _, c := range headerCases() {
		wantIntsCode(t, c.name, impl.PackHeader(c.header), c.code)
	}
}

func TestUnpackCodesInOrder(t *testing.T) {
	for _, c := range wordsCases() {
		code := c.code
		if code == impl.OK {
			code = impl.ErrText // none of these is a header
		}
		wantHeaderCode(t, c.name, impl.UnpackHeader(c.words), code)
	}
	good := plainPack(impl.Header{Seq: 5, Start: 3, Addrs: []int64{1, 2}})
	wantHeaderCode(t, "64 words", impl.UnpackHeader(good), impl.OK)
	wantHeaderCode(t, "a word behind a header", impl.UnpackHeader(append(plainPack(impl.Header{Seq: 5}), 0)), impl.ErrMany)
	wantHeaderCode(t, "many ahead of a word", impl.UnpackHeader(append(plainPack(impl.Header{Seq: 5}), -1)), impl.ErrMany)
	wantHeaderCode(t, "a word ahead of no header", impl.UnpackHeader([]int64{1, 2, 65536}), impl.ErrRange)
	// What a word of 16 bits would leave of the wrong one makes a header of these words again.
	for at := range good {
		for _, more := range []int64{65536, -65536, 1 << 32, math.MinInt64} {
			words := append([]int64(nil), good...)
			words[at] += more
			wantHeaderCode(t, "a word that wraps", impl.UnpackHeader(words), impl.ErrRange)
		}
	}
}

func TestNewestOfCountsCodeAndFault(t *testing.T) {
	good := impl.Header{Seq: 5, Start: 3, Addrs: []int64{1, 2}}
	var none []impl.HeaderResult
	for _, code := range []int64{math.MinInt64, -1, 1, impl.ErrText, 10, 11, math.MaxInt64} {
		none = append(none, impl.HeaderResult{Code: code}, impl.HeaderResult{Code: code, Header: impl.Header{Seq: 9, Addrs: []int64{7}}})
	}
	for _, c := range headerCases() {
		r := impl.HeaderResult{Header: c.header}
		if c.code != impl.OK {
			none = append(none, r)
			continue
		}
		wantHeader(t, c.name, impl.NewestOf(r, impl.HeaderResult{Code: 5}), c.header)
		wantHeader(t, c.name, impl.NewestOf(impl.HeaderResult{Code: 5}, r), c.header)
	}
	for _, a := range none {
		wantHeader(t, "the second one", impl.NewestOf(a, impl.HeaderResult{Header: good}), good)
		wantHeader(t, "the first one", impl.NewestOf(impl.HeaderResult{Header: good}, a), good)
		for _, b := range none {
			wantHeaderCode(t, "neither", impl.NewestOf(a, b), impl.ErrNone)
		}
	}
}

func TestHeaderInAsksTheDiskFaultFirst(t *testing.T) {
	for _, c := range diskCases() {
		code := c.code
		if code == impl.OK {
			code = impl.ErrForm // none of these has 66 blocks
		}
		wantHeaderCode(t, c.name, impl.HeaderIn(c.disk), code)
	}
}

func TestHeaderInAsksTheSize(t *testing.T) {
	words := plainPack(impl.Header{Seq: 2})
	for _, size := range []int{0, 1, 2, 65, 66, 67, 70, 71} {
		want := int64(impl.ErrForm)
		switch size {
		case 66:
			want = impl.ErrNone
		case 71:
			want = impl.ErrMany
		}
		d := emptyDisk(size)
		wantHeaderCode(t, "empty", impl.HeaderIn(d), want)
		if size == 0 {
			continue
		}
		d.Blocks[size-1] = []int64{-1}
		bad := int64(impl.ErrRange)
		if size == 71 {
			bad = impl.ErrMany
		}
		wantHeaderCode(t, "a word ahead of the size", impl.HeaderIn(d), bad)
		d.Blocks[size-1], d.Blocks[0] = nil, words
		if size == 66 {
			want = impl.OK
		}
		wantHeaderCode(t, "with a header", impl.HeaderIn(d), want)
	}
}

func TestHeaderInOfBlocksThatAreNone(t *testing.T) {
	for _, words := range [][]int64{nil, {}, {1}, same(0, 64), same(65535, 64), plainHalf(impl.Header{Seq: 2}), plainPack(impl.Header{Seq: 65001})} {
		wantHeaderCode(t, "neither", impl.HeaderIn(diskOf(words, words)), impl.ErrNone)
	}
	d := diskOf(plainPack(impl.Header{Seq: 2}), nil)
	d.Cache = []impl.Put{{At: 66, Words: nil}}
	wantHeaderCode(t, "a fault of the cache", impl.HeaderIn(d), impl.ErrRange)
	d.Cache = []impl.Put{{At: 1, Words: same(1, 65)}}
	wantHeaderCode(t, "a fault of the words of a put", impl.HeaderIn(d), impl.ErrMany)
	d.Cache = putsAt(1, 200)
	wantHeader(t, "a full cache", impl.HeaderIn(d), impl.Header{Seq: 2})
}
