package tests

import (
	"math"
	"slices"
	"testing"

	"loop.example/g00311/impl"
)

// Promise 1: the functions of locks answer at every argument. Here: which code, and which of two comes first.

type ownersCase struct {
	name string
	list []impl.Owner
	code int64
}

// ownersOf gives n locks that rise from first on, all of one.
func ownersOf(first int64, n int, txn int64) []impl.Owner {
	var list []impl.Owner
	for i := range int64(n) {
		list = append(list, impl.Owner{At: first + i, Txn: txn})
	}
	return list
}

func ownersCases() []ownersCase {
	list := []ownersCase{
		{"no locks", nil, impl.OK},
		{"an empty list", []impl.Owner{}, impl.OK},
		{"one lock", ownersOf(5, 1, 1), impl.OK},
		{"the zero value", []impl.Owner{{}}, impl.ErrRange},
		{"40 locks", ownersOf(0, 40, 99), impl.OK},
		{"39 locks", ownersOf(1, 39, 1), impl.OK},
		{"40 locks from 1 on", ownersOf(1, 40, 1), impl.ErrRange},
		{"41 locks", ownersOf(0, 41, 1), impl.ErrMany},
		{"1000 locks", ownersOf(0, 1000, 1), impl.ErrMany},
		{"rises", []impl.Owner{{At: 3, Txn: 2}, {At: 4, Txn: 2}, {At: 39, Txn: 1}}, impl.OK},
		{"one twice, of one", []impl.Owner{{At: 3, Txn: 2}, {At: 3, Txn: 2}}, impl.ErrForm},
		{"one twice, of two", []impl.Owner{{At: 3, Txn: 1}, {At: 3, Txn: 2}}, impl.ErrForm},
		{"lock 0 twice", []impl.Owner{{At: 0, Txn: 1}, {At: 0, Txn: 2}}, impl.ErrForm},
		{"falls by one", []impl.Owner{{At: 4, Txn: 1}, {At: 3, Txn: 2}}, impl.ErrForm},
		{"falls to 0", []impl.Owner{{At: 39, Txn: 1}, {At: 0, Txn: 2}}, impl.ErrForm},
		{"rises, then falls", []impl.Owner{{At: 3, Txn: 1}, {At: 9, Txn: 1}, {At: 8, Txn: 2}}, impl.ErrForm},
		{"falls, then rises above", []impl.Owner{{At: 3, Txn: 1}, {At: 2, Txn: 1}, {At: 8, Txn: 2}}, impl.ErrForm},
		{"the last of 40 falls", append(ownersOf(1, 39, 1), impl.Owner{At: 39, Txn: 1}), impl.ErrForm},
		{"41 ahead of a number", slices.Repeat([]impl.Owner{{At: 40, Txn: 100}}, 41), impl.ErrMany},
		{"41 ahead of one twice", slices.Repeat([]impl.Owner{{At: 3, Txn: 1}}, 41), impl.ErrMany},
		{"40 of one lock", slices.Repeat([]impl.Owner{{At: 3, Txn: 1}}, 40), impl.ErrForm},
		{"a number ahead of that it falls", []impl.Owner{{At: 4, Txn: 1}, {At: 3, Txn: 100}}, impl.ErrRange},
		{"a lock below 0 ahead of that it falls", []impl.Owner{{At: 0, Txn: 1}, {At: -1, Txn: 1}}, impl.ErrRange},
		{"one by one: what falls ahead of a number", []impl.Owner{{At: 4, Txn: 1}, {At: 3, Txn: 1}, {At: 40, Txn: 1}}, impl.ErrForm},
		{"one by one: what falls ahead of a txn", []impl.Owner{{At: 4, Txn: 1}, {At: 4, Txn: 1}, {At: 5, Txn: 0}}, impl.ErrForm},
		{"one by one: a number ahead of what falls", []impl.Owner{{At: 40, Txn: 1}, {At: 3, Txn: 1}, {At: 2, Txn: 1}}, impl.ErrRange},
		{"one by one: a txn ahead of what falls", []impl.Owner{{At: 5, Txn: 100}, {At: 3, Txn: 1}}, impl.ErrRange},
	}
	for _, c := range numberCases(0, 39) {
		list = append(list,
			ownersCase{"At is " + c.name, []impl.Owner{{At: c.number, Txn: 1}}, c.code},
			ownersCase{"the last At is " + c.name, []impl.Owner{{At: 0, Txn: 1}, {At: c.number, Txn: 1}}, firstCode(c.code, notAbove(c.number, 0))})
	}
	for _, c := range numberCases(1, 99) {
		list = append(list,
			ownersCase{"Txn is " + c.name, []impl.Owner{{At: 3, Txn: c.number}}, c.code},
			ownersCase{"the last Txn is " + c.name, []impl.Owner{{At: 3, Txn: 1}, {At: 4, Txn: c.number}}, c.code})
	}
	return list
}

func notAbove(number int64, bound int64) int64 {
	if number <= bound {
		return impl.ErrForm
	}
	return impl.OK
}

type numberCase struct {
	name   string
	number int64
	code   int64
}

// numberCases are numbers within least to most, at their edges, and beyond them.
func numberCases(least int64, most int64) []numberCase {
	return []numberCase{
		{"the least int64", math.MinInt64, impl.ErrRange},
		{"below the least int32", math.MinInt32 - 1, impl.ErrRange},
		{"-1", -1, impl.ErrRange},
		{"one below the bound", least - 1, impl.ErrRange},
		{"the lower bound", least, impl.OK},
		{"one above the lower bound", least + 1, impl.OK},
		{"one below the upper bound", most - 1, impl.OK},
		{"the upper bound", most, impl.OK},
		{"one above the bound", most + 1, impl.ErrRange},
		{"2 to the 32", 1 << 32, impl.ErrRange},
		{"2 to the 32 and 5", 1<<32 + 5, impl.ErrRange},
		{"the greatest int64", math.MaxInt64, impl.ErrRange},
	}
}

func wantOwners(t *testing.T, name string, r impl.OwnersResult, want []impl.Owner) {
	t.Helper()
	if r.Code != impl.OK || !slices.Equal(r.Owners, want) {
		t.Fatalf("%s: %v, want %v", name, r, want)
	}
}

func wantOwnersCode(t *testing.T, name string, r impl.OwnersResult, code int64) {
	t.Helper()
	wantCode(t, name, r.Code, len(r.Owners) == 0, code)
}

func TestOwnersFault(t *testing.T) {
	for _, c := range ownersCases() {
		if code := impl.OwnersFault(c.list); code != c.code {
			t.Errorf("%s: %d, want %d", c.name, code, c.code)
		}
	}
}

// All pairs of two locks: what each of them has comes first, then that the second one is above the first.
func TestOwnersFaultOfTwo(t *testing.T) {
	numbers := []int64{math.MinInt64, -1, 0, 1, 38, 39, 40, math.MaxInt64}
	within := func(at int64) int64 {
		if at < 0 || at > 39 {
			return impl.ErrRange
		}
		return impl.OK
	}
	for _, a := range numbers {
		for _, b := range numbers {
			want := firstCode(within(a), within(b), notAbove(b, a))
			if got := impl.OwnersFault([]impl.Owner{{At: a, Txn: 1}, {At: b, Txn: 2}}); got != want {
				t.Errorf("%d, %d: %d, want %d", a, b, got, want)
			}
		}
	}
}

// Beside a list that has a fault, and beside numbers that are not so, nothing is told, whatever else is asked.
func TestLockCodes(t *testing.T) {
	for _, c := range ownersCases() {
		for _, txn := range numberCases(1, 99) {
			name := c.name + ", txn " + txn.name
			wantOwnersCode(t, name, impl.FreeLocks(c.list, txn.number), firstCode(c.code, txn.code))
			wantIntsCode(t, name, impl.HeldBy(c.list, txn.number), firstCode(c.code, txn.code))
			for _, at := range numberCases(0, 39) {
				if code := firstCode(c.code, txn.code, at.code); code != impl.OK {
					wantOwnersCode(t, name+", at "+at.name, impl.TakeLock(c.list, txn.number, at.number), code)
					if impl.MayTake(c.list, txn.number, at.number) {
						t.Errorf("%s, at %s: MayTake", name, at.name)
					}
				}
			}
		}
		for _, at := range numberCases(0, 39) {
			r := impl.OwnerOf(c.list, at.number)
			if code := firstCode(c.code, at.code); code != impl.OK {
				wantInt(t, c.name+", at "+at.name, r, impl.IntResult{Code: code})
			} else if r.Code != impl.OK && r.Code != impl.ErrNone {
				t.Errorf("%s, at %s: %v", c.name, at.name, r)
			}
		}
	}
}

// A number that is not so comes ahead of what is had and of who waits.
func TestNumbersComeAheadOfLocks(t *testing.T) {
	full := ownersOf(0, 40, 1)
	for _, txn := range []int64{math.MinInt64, 0, 100, math.MaxInt64} {
		wantOwnersCode(t, "a lock that another one has", impl.TakeLock(full, txn, 5), impl.ErrRange)
	}
	for _, at := range []int64{math.MinInt64, -1, 40, math.MaxInt64} {
		wantOwnersCode(t, "below or above all", impl.TakeLock(full, 1, at), impl.ErrRange)
		wantOwnersCode(t, "of another one", impl.TakeLock(full, 2, at), impl.ErrRange)
		wantInt(t, "who has", impl.OwnerOf(full, at), impl.IntResult{Code: impl.ErrRange})
	}
}

// A fault of the list comes ahead of each code, also of those that tell what is had.
func TestListsComeAheadOfAll(t *testing.T) {
	falls := []impl.Owner{{At: 9, Txn: 1}, {At: 5, Txn: 2}}
	for txn := int64(0); txn <= 3; txn++ {
		for at := int64(-1); at <= 40; at++ {
			wantOwnersCode(t, "TakeLock", impl.TakeLock(falls, txn, at), impl.ErrForm)
			wantInt(t, "OwnerOf", impl.OwnerOf(falls, at), impl.IntResult{Code: impl.ErrForm})
		}
		wantOwnersCode(t, "FreeLocks", impl.FreeLocks(falls, txn), impl.ErrForm)
		wantIntsCode(t, "HeldBy", impl.HeldBy(falls, txn), impl.ErrForm)
	}
}

// What txn has already comes ahead of that it has a greater one, this ahead of that another one has it.
func TestOrderOfTheCodesOfTakeLock(t *testing.T) {
	list := []impl.Owner{{At: 5, Txn: 1}, {At: 6, Txn: 2}, {At: 7, Txn: 1}}
	wantOwners(t, "had already, and a greater one", impl.TakeLock(list, 1, 5), list)
	wantOwnersCode(t, "a greater one, and another one has it", impl.TakeLock(list, 1, 6), impl.ErrState)
	wantOwnersCode(t, "another one has it", impl.TakeLock(list, 2, 7), impl.ErrWait)
	wantOwnersCode(t, "nobody has it", impl.TakeLock(list, 2, 8), impl.OK)
}

func TestNilAndEmptyAreTheSameToLocks(t *testing.T) {
	none := []impl.Owner{}
	wantOwners(t, "TakeLock", impl.TakeLock(none, 4, 5), impl.TakeLock(nil, 4, 5).Owners)
	wantOwners(t, "FreeLocks", impl.FreeLocks(none, 4), nil)
	wantOwners(t, "FreeLocks of nil", impl.FreeLocks(nil, 4), nil)
	wantWords(t, "HeldBy", impl.HeldBy(none, 4), nil)
	wantWords(t, "HeldBy of nil", impl.HeldBy(nil, 4), nil)
	if !impl.MayTake(none, 4, 5) || !impl.MayTake(nil, 4, 5) || impl.OwnersFault(none) != impl.OwnersFault(nil) {
		t.Error("an empty list and nil differ")
	}
}
