package tests

import (
	"math"
	"slices"
	"testing"

	"loop.example/g00311/impl"
)

// Promise 1: the functions of free blocks answer at every argument. Here: which code, and which of two comes first.

type mapCase struct {
	name string
	used []int64
	code int64
}

func mapCases() []mapCase {
	list := []mapCase{
		{"none", nil, impl.OK},
		{"an empty list", []int64{}, impl.OK},
		{"two", []int64{3, 4}, impl.OK},
		{"both ends", []int64{3, 22}, impl.OK},
		{"19", run(3, 19), impl.OK},
		{"19 from the second one on", run(4, 19), impl.OK},
		{"all 20", run(3, 20), impl.OK},
		{"20 from 2 on", run(2, 20), impl.ErrRange},
		{"20 from 4 on", run(4, 20), impl.ErrRange},
		{"21", run(3, 21), impl.ErrRange},
		{"all 20, and one twice", append(run(3, 20), 22), impl.ErrForm},
		{"1000 that rise", run(3, 1000), impl.ErrRange},
		{"1000 of one block", same(3, 1000), impl.ErrForm},
		{"1000 of no block", same(2, 1000), impl.ErrRange},
		{"one twice", []int64{5, 5}, impl.ErrForm},
		{"the first one twice", []int64{3, 3}, impl.ErrForm},
		{"the last one twice", []int64{22, 22}, impl.ErrForm},
		{"one twice, not side by side", []int64{5, 6, 5}, impl.ErrForm},
		{"falls by one", []int64{6, 5}, impl.ErrForm},
		{"falls from end to end", []int64{22, 3}, impl.ErrForm},
		{"rises, then falls", []int64{5, 9, 8}, impl.ErrForm},
		{"falls, then rises above", []int64{5, 4, 9}, impl.ErrForm},
		{"the last of 20 falls", append(run(4, 19), 3), impl.ErrForm},
		{"a number ahead of that it falls", []int64{3, 2}, impl.ErrRange},
		{"below 0 ahead of that it falls", []int64{3, -3}, impl.ErrRange},
		{"a number twice", []int64{23, 23}, impl.ErrRange},
		{"one by one: what falls ahead of a number", []int64{6, 5, 23}, impl.ErrForm},
		{"one by one: what is there twice ahead of a number", []int64{6, 6, 2}, impl.ErrForm},
		{"one by one: a number ahead of what falls", []int64{2, 6, 5}, impl.ErrRange},
		{"one by one: a number in the midst ahead of what falls", []int64{6, 23, 5, 4}, impl.ErrRange},
	}
	for _, c := range numberCases(3, 22) {
		list = append(list,
			mapCase{"one, " + c.name, []int64{c.number}, c.code},
			mapCase{"the last is " + c.name, []int64{3, c.number}, firstCode(c.code, notAbove(c.number, 3))},
			mapCase{"the first is " + c.name, []int64{c.number, 22}, firstCode(c.code, notAbove(22, c.number))})
	}
	return list
}

func TestMapFault(t *testing.T) {
	for _, c := range mapCases() {
		if code := impl.MapFault(c.used); code != c.code {
			t.Errorf("%s: %d, want %d", c.name, code, c.code)
		}
	}
}

// All lists of three of the numbers at the edges: each one's number comes first, then that it is above the one ahead of it, then the next one.
func TestMapFaultOfThree(t *testing.T) {
	numbers := []int64{math.MinInt64, -1, 0, 2, 3, 4, 21, 22, 23, math.MaxInt64}
	within := func(at int64) int64 {
		if at < 3 || at > 22 {
			return impl.ErrRange
		}
		return impl.OK
	}
	for _, a := range numbers {
		for _, b := range numbers {
			for _, c := range numbers {
				want := firstCode(within(a), within(b), notAbove(b, a), within(c), notAbove(c, b))
				if got := impl.MapFault([]int64{a, b, c}); got != want {
					t.Errorf("%d, %d, %d: %d, want %d", a, b, c, got, want)
				}
			}
		}
	}
}

// Beside a map that has a fault, and beside a number that is not so, nothing is told, whatever else is asked.
func TestMapCodes(t *testing.T) {
	for _, c := range mapCases() {
		wantIntsCode(t, c.name, impl.PackMap(c.used), c.code)
		for _, n := range numberCases(0, 20) {
			code := firstCode(c.code, n.code)
			if code == impl.OK && n.number > int64(20-len(c.used)) {
				code = impl.ErrFull
			}
			wantTakeCode(t, c.name+", n is "+n.name, impl.TakeBlocks(c.used, n.number), code)
		}
		for _, other := range mapCases() {
			code := firstCode(c.code, other.code)
			if code == impl.OK && slices.ContainsFunc(other.used, func(at int64) bool { return !slices.Contains(c.used, at) }) {
				code = impl.ErrNone
			}
			wantIntsCode(t, c.name+", list is "+other.name, impl.FreeBlocks(c.used, other.used), code)
		}
		for _, at := range numberCases(3, 22) {
			want := c.code == impl.OK && slices.Contains(c.used, at.number)
			if got := impl.IsUsed(c.used, at.number); got != want {
				t.Errorf("%s, at is %s: %v", c.name, at.name, got)
			}
		}
	}
}

// A map that has a fault has no block in use, also none of those that stand in it.
func TestNothingIsUsedInAFaultyMap(t *testing.T) {
	for _, used := range [][]int64{{2, 5}, {5, 23}, {5, 5}, {6, 5}, append(run(3, 20), 23), {math.MinInt64, 5}, {5, math.MaxInt64}} {
		for _, at := range append(slices.Clone(used), 5) {
			if impl.IsUsed(used, at) {
				t.Errorf("%v: %d is in use", used, at)
			}
		}
	}
}

// n that is not 0 to 20 comes ahead of that fewer are free; where n is so, as many as are free are the last that are told.
func TestNumberComesAheadOfWhatIsFree(t *testing.T) {
	for count := range 21 {
		used := run(3, count)
		for _, n := range []int64{math.MinInt64, math.MinInt32 - 1, -1, 21, 22, 1 << 32, math.MaxInt64} {
			wantTakeCode(t, "n", impl.TakeBlocks(used, n), impl.ErrRange)
		}
		for n := range int64(21) {
			want := int64(impl.OK)
			if n > int64(20-count) {
				want = impl.ErrFull
			}
			wantTakeCode(t, "free", impl.TakeBlocks(used, n), want)
		}
	}
}

// The map's fault comes ahead of that of the list, this ahead of that one is not in use.
func TestMapsComeAheadOfLists(t *testing.T) {
	cases := []struct {
		name string
		used []int64
		list []int64
		code int64
	}{
		{"form of used, range of list", []int64{6, 5}, []int64{2}, impl.ErrForm},
		{"range of used, form of list", []int64{2}, []int64{6, 5}, impl.ErrRange},
		{"form of used, list not in use", []int64{6, 5}, []int64{7}, impl.ErrForm},
		{"form of used, list in it", []int64{6, 5}, []int64{5}, impl.ErrForm},
		{"range of used, list in it", []int64{5, 23}, []int64{5}, impl.ErrRange},
		{"range of used, no list", []int64{2}, nil, impl.ErrRange},
		{"range of list, one not in use ahead of it", []int64{5}, []int64{7, 23}, impl.ErrRange},
		{"form of list, one not in use ahead of it", []int64{5}, []int64{7, 7}, impl.ErrForm},
		{"form of list, one in use twice", []int64{5}, []int64{5, 5}, impl.ErrForm},
		{"form of list, in use but falls", []int64{5, 6}, []int64{6, 5}, impl.ErrForm},
		{"list in both, then not in use", []int64{5, 6}, []int64{5, 6, 7}, impl.ErrNone},
		{"list of none that is in use", nil, []int64{22}, impl.ErrNone},
	}
	for _, c := range cases {
		wantIntsCode(t, c.name, impl.FreeBlocks(c.used, c.list), c.code)
	}
}

func TestUnpackMapCodes(t *testing.T) {
	for _, c := range wordsCases() {
		code := c.code
		if code == impl.OK && len(c.words) != 0 && len(c.words) != 2 {
			code = impl.ErrText
		}
		if code != impl.OK {
			wantIntsCode(t, c.name, impl.UnpackMap(c.words), code)
		}
	}
	cases := []struct {
		name  string
		words []int64
		code  int64
	}{
		{"no words", nil, impl.OK},
		{"empty words", []int64{}, impl.OK},
		{"one word 0", []int64{0}, impl.ErrText},
		{"one word", []int64{1}, impl.ErrText},
		{"two words 0", []int64{0, 0}, impl.OK},
		{"three words 0", []int64{0, 0, 0}, impl.ErrText},
		{"three words", []int64{1, 1, 1}, impl.ErrText},
		{"a map's words and a 0", []int64{1023, 1023, 0}, impl.ErrText},
		{"four words", []int64{1, 1, 1, 1}, impl.ErrText},
		{"64 words", same(0, 64), impl.ErrText},
		{"65 words", same(0, 65), impl.ErrMany},
		{"65 words of no map", same(65535, 65), impl.ErrMany},
		{"1000 words", same(1, 1000), impl.ErrMany},
		{"all ten bits", []int64{1023, 1023}, impl.OK},
		{"the bit beyond the tenth, first word", []int64{1024, 0}, impl.ErrText},
		{"the bit beyond the tenth, second word", []int64{0, 1024}, impl.ErrText},
		{"a bit beyond beside others", []int64{1025, 1}, impl.ErrText},
		{"the greatest words", []int64{65535, 65535}, impl.ErrText},
		{"the highest bit", []int64{0, 32768}, impl.ErrText},
		{"a word beyond the greatest", []int64{65536, 0}, impl.ErrRange},
		{"the second one beyond the greatest", []int64{0, 65536}, impl.ErrRange},
		{"a word below 0", []int64{-1, 0}, impl.ErrRange},
		{"the second one below 0", []int64{0, -1}, impl.ErrRange},
		{"the greatest int64", []int64{0, math.MaxInt64}, impl.ErrRange},
		{"the least int64", []int64{math.MinInt64, 0}, impl.ErrRange},
		{"one word below 0", []int64{-1}, impl.ErrRange},
		{"the third word below 0", []int64{0, 0, -1}, impl.ErrRange},
		{"64 words, the last below 0", append(same(0, 63), -1), impl.ErrRange},
		{"65 words below 0", same(-1, 65), impl.ErrMany},
		{"of no map ahead of one below 0", []int64{1024, -1}, impl.ErrRange},
	}
	for _, c := range cases {
		wantIntsCode(t, c.name, impl.UnpackMap(c.words), c.code)
	}
}

func TestNilAndEmptyAreTheSameToMaps(t *testing.T) {
	none := []int64{}
	wantWords(t, "PackMap", impl.PackMap(none), impl.PackMap(nil).List)
	wantWords(t, "UnpackMap", impl.UnpackMap(none), impl.UnpackMap(nil).List)
	of := impl.TakeBlocks(nil, 4)
	wantTaken(t, "TakeBlocks", impl.TakeBlocks(none, 4), of.List, of.Used)
	wantWords(t, "FreeBlocks", impl.FreeBlocks(none, none), impl.FreeBlocks(nil, nil).List)
	wantWords(t, "FreeBlocks of no list", impl.FreeBlocks([]int64{5}, none), impl.FreeBlocks([]int64{5}, nil).List)
	if impl.MapFault(none) != impl.MapFault(nil) || impl.IsUsed(none, 5) || impl.IsUsed(nil, 5) {
		t.Error("an empty list and nil differ")
	}
}
