package tests

import (
	"math"
	"testing"

	"loop.example/g00311/impl"
)

// Promises 1 and 3: a disk that was formatted has the header of its number, and nothing else.

func TestFormatDiskHasTheHeaderAlone(t *testing.T) {
	for _, seq := range []int64{1, 2, 3, 4, 255, 256, 32767, 32768, 64999, 65000} {
		d := mustDisk(t, impl.FormatDisk(seq))
		want := emptyDisk(66)
		want.Blocks[seq%2] = plainPack(impl.Header{Seq: seq})
		if !sameDisks(d, want) {
			t.Errorf("seq %d: %v", seq, d)
		}
		if code := impl.DiskFault(d); code != impl.OK {
			t.Errorf("seq %d: DiskFault %d", seq, code)
		}
		wantHeader(t, "formatted", impl.HeaderIn(d), impl.Header{Seq: seq})
		for pick := range int64(4) {
			crashed := mustDisk(t, impl.CrashDisk(d, same(pick, 200)))
			wantHeader(t, "formatted and crashed", impl.HeaderIn(crashed), impl.Header{Seq: seq})
		}
	}
}

func TestFormatDiskRange(t *testing.T) {
	for _, seq := range []int64{math.MinInt64, -1, 0, 65001, 65535, 65536, 65537, 1<<32 + 1, math.MaxInt64} {
		wantDiskCode(t, "FormatDisk", impl.FormatDisk(seq), impl.ErrRange)
	}
	wantDiskCode(t, "FormatDisk", impl.FormatDisk(1), impl.OK)
	wantDiskCode(t, "FormatDisk", impl.FormatDisk(65000), impl.OK)
}

// The next header goes to the other block, whatever of it is there.
func TestNextHeaderBesideTheFormatted(t *testing.T) {
	for _, seq := range []int64{1, 2, 64998, 64999} {
		next := impl.Header{Seq: seq + 1, Start: 2, Addrs: []int64{6}}
		d := mustDisk(t, impl.PutBlock(mustDisk(t, impl.FormatDisk(seq)), next.Seq%2, mustPack(t, next)))
		for pick := range int64(4) {
			want := impl.Header{Seq: seq}
			if pick == impl.KeepAll {
				want = next
			}
			wantHeader(t, "crashed", impl.HeaderIn(mustDisk(t, impl.CrashDisk(d, []int64{pick}))), want)
		}
	}
}
