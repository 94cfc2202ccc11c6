package tests

import (
	"math"
	"testing"

	"loop.example/g00311/impl"
)

// Promise 1: the functions of locks change no argument, their answers are new memory and hang on the arguments alone.

type lockArgs struct {
	List []impl.Owner
	Txn  int64
	At   int64
}

func lockArgsList() []lockArgs {
	lists := [][]impl.Owner{
		nil,
		ownersOf(5, 1, 1),
		{{At: 0, Txn: 99}, {At: 5, Txn: 1}, {At: 8, Txn: 2}, {At: 20, Txn: 1}, {At: 39, Txn: 3}},
		ownersOf(0, 40, 1),
		ownersOf(0, 41, 1),
		{{At: 5, Txn: 1}, {At: 3, Txn: 2}},
		{{At: 5, Txn: 100}},
	}
	var list []lockArgs
	for _, owners := range lists {
		for _, txn := range []int64{math.MinInt64, 0, 1, 2, 4, 99, 100} {
			for _, at := range []int64{-1, 0, 5, 6, 8, 21, 39, 40, math.MaxInt64} {
				list = append(list, lockArgs{owners, txn, at})
			}
		}
	}
	return list
}

func lockCalls() []namedCall[lockArgs] {
	return []namedCall[lockArgs]{
		{"OwnersFault", func(a lockArgs) any { return impl.OwnersFault(a.List) }},
		{"TakeLock", func(a lockArgs) any { return impl.TakeLock(a.List, a.Txn, a.At) }},
		{"FreeLocks", func(a lockArgs) any { return impl.FreeLocks(a.List, a.Txn) }},
		{"HeldBy", func(a lockArgs) any { return impl.HeldBy(a.List, a.Txn) }},
		{"OwnerOf", func(a lockArgs) any { return impl.OwnerOf(a.List, a.At) }},
		{"MayTake", func(a lockArgs) any { return impl.MayTake(a.List, a.Txn, a.At) }},
	}
}

func TestLockCallsKeepToTheirArguments(t *testing.T) {
	wantCallsApart(t, lockCalls(), lockArgsList())
}

// Where nothing changes the answer is a list of its own all the same.
func TestLocksThatStayAreNewMemory(t *testing.T) {
	some := []impl.Owner{{At: 5, Txn: 1}, {At: 8, Txn: 2}, {At: 20, Txn: 1}}
	for _, list := range [][]impl.Owner{some, ownersOf(0, 40, 1), append(make([]impl.Owner, 0, 40), some...)} {
		had := impl.TakeLock(list, 1, 5)
		wantOwners(t, "had already", had, list)
		wantNewMemory(t, "had already", had, list)
		none := impl.FreeLocks(list, 77)
		wantOwners(t, "none to free", none, list)
		wantNewMemory(t, "none to free", none, list)
	}
}

// A list told again and again is told in one order, whatever order it was kept in.
func TestLocksAreToldInOneOrder(t *testing.T) {
	var list []impl.Owner
	for at := range int64(39) {
		list = append(list, impl.Owner{At: at, Txn: 1 + at*7%13})
	}
	for range 200 {
		wantOwners(t, "TakeLock", impl.TakeLock(list, 50, 39), append(list[:39:39], impl.Owner{At: 39, Txn: 50}))
		wantOwners(t, "FreeLocks", impl.FreeLocks(list, 50), list)
		wantWords(t, "HeldBy", impl.HeldBy(list, 1), []int64{0, 13, 26})
	}
}
