package tests

import (
	"math"
	"slices"
	"testing"

	"loop.example/g00311/impl"
)

// Promise 1: the functions of what is seen answer at every argument. Here: which code, and which of two comes first.

func TestWhatIsSeenAsksHeaderInFirst(t *testing.T) {
	for _, c := range headerInCases() {
		wantPutsCode(t, c.name, impl.ViewOf(c.disk), c.code)
		wantInt(t, c.name, impl.RoomIn(c.disk), impl.IntResult{Code: c.code})
		for _, at := range []int64{math.MinInt64, -1, 0, 39, 40, math.MaxInt64} {
			wantIntsCode(t, c.name, impl.ReadHome(c.disk, at), c.code)
		}
	}
}

func TestDisksOfOtherSizesAreNotSeen(t *testing.T) {
	for size, code := range map[int]int64{0: impl.ErrForm, 65: impl.ErrForm, 66: impl.OK, 67: impl.ErrForm, 70: impl.ErrForm, 71: impl.ErrMany} {
		d := emptyDisk(size)
		if size > 0 {
			d.Blocks[0] = plainPack(impl.Header{Seq: 2})
		}
		wantPutsCode(t, "ViewOf", impl.ViewOf(d), code)
		wantIntsCode(t, "ReadHome", impl.ReadHome(d, 0), code)
		if r := impl.RoomIn(d); r.Code != code {
			t.Errorf("RoomIn of %d blocks: %v", size, r)
		}
	}
}

func TestReadHomeRange(t *testing.T) {
	d := logDisk(9, 20, 7)
	for at, code := range map[int64]int64{math.MinInt64: impl.ErrRange, -26: impl.ErrRange, -1: impl.ErrRange, 0: impl.OK, 39: impl.OK, 40: impl.ErrRange, 65: impl.ErrRange, math.MaxInt64: impl.ErrRange} {
		wantIntsCode(t, "ReadHome", impl.ReadHome(d, at), code)
	}
}

// 65000 is no fault of a disk that is just looked at.
func TestLastSeqIsSeen(t *testing.T) {
	d := logDisk(65000, 3, 24)
	homes := plainSeen(d)
	wantSeen(t, "Seq 65000", d, homes.view())
	wantInt(t, "Seq 65000", impl.RoomIn(d), impl.IntResult{Value: 0})
}

// manyPutsCases are putsCases, and lists of 13 to 61 and more.
func manyPutsCases() []putsCase {
	wrong := []impl.Put{{At: 40}}
	return append(putsCases(),
		putsCase{"no puts", nil, impl.OK},
		putsCase{"an empty list of puts", []impl.Put{}, impl.OK},
		putsCase{"13 puts", putsAt(7, 13), impl.OK},
		putsCase{"60 puts", putsAt(7, 60), impl.OK},
		putsCase{"61 puts", putsAt(7, 61), impl.ErrMany},
		putsCase{"200 puts", putsAt(7, 200), impl.ErrMany},
		putsCase{"the last of 60", append(putsAt(7, 59), wrong...), impl.ErrRange},
		putsCase{"the last word of 60", append(putsAt(7, 59), impl.Put{At: 7, Words: []int64{65536}}), impl.ErrRange},
		putsCase{"61 ahead of a block", slices.Repeat(wrong, 61), impl.ErrMany},
		putsCase{"61 ahead of a word", slices.Repeat([]impl.Put{{At: 1, Words: []int64{-1}}}, 61), impl.ErrMany},
	)
}

// firstCode is the first of codes that is not OK.
func firstCode(codes ...int64) int64 {
	for _, code := range codes {
		if code != impl.OK {
			return code
		}
	}
	return impl.OK
}

func TestAbsorbAsksAThenB(t *testing.T) {
	for _, a := range manyPutsCases() {
		for _, b := range manyPutsCases() {
			together := int64(impl.OK)
			if len(a.puts)+len(b.puts) > 60 {
				together = impl.ErrMany
			}
			wantPutsCode(t, a.name+", "+b.name, impl.AbsorbPuts(a.puts, b.puts), firstCode(a.code, b.code, together))
		}
	}
}

func TestAbsorbCountsBoth(t *testing.T) {
	for n := range 62 {
		for _, all := range []int{59, 60, 61, 62} {
			if n > all || all-n > 60 {
				continue
			}
			code := int64(impl.OK)
			if all > 60 {
				code = impl.ErrMany
			}
			wantPutsCode(t, "of one block", impl.AbsorbPuts(putsAt(3, n), putsAt(3, all-n)), code)
			wantPutsCode(t, "of two", impl.AbsorbPuts(putsAt(3, n), putsAt(4, all-n)), code)
		}
	}
}

// viewCases are views, and puts that are none, with the code that they have behind those of puts.
func viewCases() []putsCase {
	word, whole := []int64{1}, []impl.Put(nil)
	for at := range int64(40) {
		whole = append(whole, impl.Put{At: at, Words: same(at, 64)})
	}
	return []putsCase{
		{"no view", nil, impl.OK},
		{"an empty view", []impl.Put{}, impl.OK},
		{"block 0", []impl.Put{{At: 0, Words: word}}, impl.OK},
		{"block 39", []impl.Put{{At: 39, Words: word}}, impl.OK},
		{"all blocks", whole, impl.OK},
		{"one without words", []impl.Put{{At: 3}}, impl.ErrForm},
		{"one with an empty list", []impl.Put{{At: 3, Words: []int64{}}}, impl.ErrForm},
		{"the first without words", []impl.Put{{At: 3}, {At: 4, Words: word}}, impl.ErrForm},
		{"the last without words", []impl.Put{{At: 3, Words: word}, {At: 4}}, impl.ErrForm},
		{"a block twice", []impl.Put{{At: 3, Words: word}, {At: 3, Words: word}}, impl.ErrForm},
		{"a block twice, not side by side", []impl.Put{{At: 3, Words: word}, {At: 4, Words: word}, {At: 3, Words: word}}, impl.ErrForm},
		{"it falls", []impl.Put{{At: 4, Words: word}, {At: 3, Words: word}}, impl.ErrForm},
		{"it falls at the end", []impl.Put{{At: 3, Words: word}, {At: 5, Words: word}, {At: 4, Words: word}}, impl.ErrForm},
		{"it falls to 0", []impl.Put{{At: 1, Words: word}, {At: 0, Words: word}}, impl.ErrForm},
		{"all blocks and one more", append(slices.Clone(whole), whole[39]), impl.ErrForm},
		{"60 of one block", slices.Repeat([]impl.Put{{At: 3, Words: word}}, 60), impl.ErrForm},
	}
}

func TestApplyAsksForAView(t *testing.T) {
	for _, v := range viewCases() {
		for _, p := range manyPutsCases() {
			wantPutsCode(t, v.name+", "+p.name, impl.ApplyPuts(v.puts, p.puts), firstCode(p.code, v.code))
		}
	}
}

// The codes of the view as puts come first, then those of the puts, then whether it is a view.
func TestApplyAsksTheViewFirst(t *testing.T) {
	for _, v := range manyPutsCases() {
		if v.code == impl.OK {
			continue
		}
		for _, p := range manyPutsCases() {
			wantPutsCode(t, v.name+", "+p.name, impl.ApplyPuts(v.puts, p.puts), v.code)
		}
	}
	falls := []impl.Put{{At: 4, Words: []int64{1}}, {At: 3, Words: []int64{1}}}
	wantPutsCode(t, "a fault behind what falls", impl.ApplyPuts(append(slices.Clone(falls), impl.Put{At: 40}), nil), impl.ErrRange)
	wantPutsCode(t, "many behind one without words", impl.ApplyPuts([]impl.Put{{At: 3}, {At: 4, Words: same(1, 65)}}, nil), impl.ErrMany)
	wantPutsCode(t, "puts ahead of what falls", impl.ApplyPuts(falls, []impl.Put{{At: 40}}), impl.ErrRange)
	wantPutsCode(t, "61 puts ahead of what falls", impl.ApplyPuts(falls, putsAt(3, 61)), impl.ErrMany)
	wantPutsCode(t, "61 in a view", impl.ApplyPuts(putsAt(3, 61), nil), impl.ErrMany)
}

// A view and puts are not counted together.
func TestApplyCountsEachAlone(t *testing.T) {
	view := viewCases()[4].puts
	wantPutsCode(t, "40 and 60", impl.ApplyPuts(view, putsAt(3, 60)), impl.OK)
	wantPutsCode(t, "40 and 61", impl.ApplyPuts(view, putsAt(3, 61)), impl.ErrMany)
}

// What is seen is a view, so that puts may go over it.
func TestWhatIsSeenIsAView(t *testing.T) {
	for _, n := range []int{0, 1, 12, 24} {
		for _, d := range []impl.Disk{logDisk(9, 5, n), hollowDisk(9, 5, n), formatted(3)} {
			view := impl.ViewOf(d).Puts
			wantPuts(t, "ViewOf", impl.ApplyPuts(view, nil), view)
		}
	}
}

func TestNilAndEmptyAreTheSameToWhatIsSeen(t *testing.T) {
	a := []impl.Put{{At: 1, Words: nil}, {At: 2, Words: []int64{1}}}
	b := []impl.Put{{At: 1, Words: []int64{}}, {At: 2, Words: []int64{1}}}
	view := []impl.Put{{At: 1, Words: []int64{7}}}
	wantPuts(t, "AbsorbPuts", impl.AbsorbPuts(nil, a), impl.AbsorbPuts([]impl.Put{}, b).Puts)
	wantPuts(t, "ApplyPuts", impl.ApplyPuts(view, a), impl.ApplyPuts(view, b).Puts)
	empty, none := logDisk(6, 22, 0), logDisk(6, 22, 0)
	empty.Blocks[30], none.Blocks[30] = []int64{}, nil
	wantPuts(t, "ViewOf", impl.ViewOf(empty), impl.ViewOf(none).Puts)
	wantWords(t, "ReadHome", impl.ReadHome(empty, 4), nil)
}
