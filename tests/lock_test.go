package tests

import (
	"math/rand"
	"slices"
	"testing"

	"loop.example/g00311/impl"
)

// Promise 7: a lock is of one alone, and each one's are taken upwards.

// plainLocks holds for each lock who has it, 0 where nobody has.
type plainLocks [40]int64

func (p plainLocks) owners() []impl.Owner {
	var list []impl.Owner
	for at, txn := range p {
		if txn != 0 {
			list = append(list, impl.Owner{At: int64(at), Txn: txn})
		}
	}
	return list
}

func (p plainLocks) heldBy(txn int64) []int64 {
	var list []int64
	for at := range p {
		if p[at] == txn {
			list = append(list, int64(at))
		}
	}
	return list
}

func (p plainLocks) takeCode(txn int64, at int64) int64 {
	held := p.heldBy(txn)
	switch {
	case p[at] == txn:
		return impl.OK
	case len(held) > 0 && held[len(held)-1] > at:
		return impl.ErrState
	case p[at] != 0:
		return impl.ErrWait
	}
	return impl.OK
}

func (p plainLocks) with(txn int64, at int64) plainLocks {
	p[at] = txn
	return p
}

func (p plainLocks) without(txn int64) plainLocks {
	for at := range p {
		if p[at] == txn {
			p[at] = 0
		}
	}
	return p
}

// wantTake holds TakeLock and MayTake against the plain locks, and gives what is held then.
func wantTake(t *testing.T, p plainLocks, txn int64, at int64) plainLocks {
	t.Helper()
	code := p.takeCode(txn, at)
	r := impl.TakeLock(p.owners(), txn, at)
	if may := impl.MayTake(p.owners(), txn, at); may != (code == impl.OK) {
		t.Fatalf("%v: MayTake of %d by %d: %v", p.owners(), at, txn, may)
	}
	if code != impl.OK {
		wantOwnersCode(t, "TakeLock", r, code)
		return p
	}
	wantOwners(t, "TakeLock", r, p.with(txn, at).owners())
	return p.with(txn, at)
}

// wantAsked holds what is asked of txn and of each lock against the plain locks.
func wantAsked(t *testing.T, p plainLocks, txn int64) {
	t.Helper()
	list := p.owners()
	if code := impl.OwnersFault(list); code != impl.OK {
		t.Fatalf("%v: %d", list, code)
	}
	wantWords(t, "HeldBy", impl.HeldBy(list, txn), p.heldBy(txn))
	wantOwners(t, "FreeLocks", impl.FreeLocks(list, txn), p.without(txn).owners())
	for at, who := range p {
		want := impl.IntResult{Value: who}
		if who == 0 {
			want = impl.IntResult{Code: impl.ErrNone}
		}
		wantInt(t, "OwnerOf", impl.OwnerOf(list, int64(at)), want)
	}
}

func randomLocks(rnd *rand.Rand, txns []int64, of int) plainLocks {
	var p plainLocks
	for at := range p {
		if rnd.Intn(of) == 0 {
			p[at] = txns[rnd.Intn(len(txns))]
		}
	}
	return p
}

func TestTakeLockByHand(t *testing.T) {
	some := []impl.Owner{{At: 3, Txn: 1}, {At: 8, Txn: 2}, {At: 20, Txn: 1}, {At: 30, Txn: 3}}
	cases := []struct {
		name    string
		list    []impl.Owner
		txn, at int64
		code    int64
		want    []impl.Owner
	}{
		{"of none", nil, 1, 5, impl.OK, []impl.Owner{{At: 5, Txn: 1}}},
		{"of an empty list", []impl.Owner{}, 99, 0, impl.OK, []impl.Owner{{At: 0, Txn: 99}}},
		{"the last lock", nil, 1, 39, impl.OK, []impl.Owner{{At: 39, Txn: 1}}},
		{"had already, alone", []impl.Owner{{At: 5, Txn: 1}}, 1, 5, impl.OK, []impl.Owner{{At: 5, Txn: 1}}},
		{"had already, with a smaller one", []impl.Owner{{At: 4, Txn: 1}, {At: 5, Txn: 1}}, 1, 5, impl.OK, []impl.Owner{{At: 4, Txn: 1}, {At: 5, Txn: 1}}},
		{"had already, with a greater one", []impl.Owner{{At: 5, Txn: 1}, {At: 6, Txn: 1}}, 1, 5, impl.OK, []impl.Owner{{At: 5, Txn: 1}, {At: 6, Txn: 1}}},
		{"had already, with both", some, 1, 3, impl.OK, some},
		{"the greatest had already", some, 1, 20, impl.OK, some},
		{"lock 0, had already, with a greater one", []impl.Owner{{At: 0, Txn: 1}, {At: 39, Txn: 1}}, 1, 0, impl.OK, []impl.Owner{{At: 0, Txn: 1}, {At: 39, Txn: 1}}},
		{"a greater one, and nobody has it", some, 1, 19, impl.ErrState, nil},
		{"a greater one, and another one has it", some, 1, 8, impl.ErrState, nil},
		{"a greater one, just above", []impl.Owner{{At: 5, Txn: 1}, {At: 6, Txn: 2}}, 2, 5, impl.ErrState, nil},
		{"a greater and a smaller one", some, 1, 10, impl.ErrState, nil},
		{"below all that it has", some, 1, 0, impl.ErrState, nil},
		{"another one has it, and txn has none", some, 4, 8, impl.ErrWait, nil},
		{"another one has it, and txn has a smaller one", some, 2, 20, impl.ErrWait, nil},
		{"another one has it, and txn has smaller ones", some, 1, 30, impl.ErrWait, nil},
		{"another one has it, and txn has the one just below", []impl.Owner{{At: 5, Txn: 1}, {At: 6, Txn: 2}}, 1, 6, impl.ErrWait, nil},
		{"another one has the first lock", []impl.Owner{{At: 0, Txn: 99}}, 1, 0, impl.ErrWait, nil},
		{"ahead of all", some, 4, 0, impl.OK, []impl.Owner{{At: 0, Txn: 4}, some[0], some[1], some[2], some[3]}},
		{"in the midst", some, 2, 19, impl.OK, []impl.Owner{some[0], some[1], {At: 19, Txn: 2}, some[2], some[3]}},
		{"just behind its greatest", some, 1, 21, impl.OK, []impl.Owner{some[0], some[1], some[2], {At: 21, Txn: 1}, some[3]}},
		{"behind all", some, 3, 39, impl.OK, []impl.Owner{some[0], some[1], some[2], some[3], {At: 39, Txn: 3}}},
		{"others have greater ones", some, 4, 9, impl.OK, []impl.Owner{some[0], some[1], {At: 9, Txn: 4}, some[2], some[3]}},
	}
	for _, c := range cases {
		r := impl.TakeLock(c.list, c.txn, c.at)
		wantOwnersCode(t, c.name, r, c.code)
		if !slices.Equal(r.Owners, c.want) {
			t.Errorf("%s: %v, want %v", c.name, r.Owners, c.want)
		}
		if impl.MayTake(c.list, c.txn, c.at) != (c.code == impl.OK) {
			t.Errorf("%s: MayTake", c.name)
		}
	}
}

func TestFreeAndHeldByHand(t *testing.T) {
	some := []impl.Owner{{At: 0, Txn: 1}, {At: 8, Txn: 2}, {At: 20, Txn: 1}, {At: 39, Txn: 99}}
	all := []impl.Owner{{At: 0, Txn: 7}, {At: 20, Txn: 7}, {At: 39, Txn: 7}}
	cases := []struct {
		name string
		list []impl.Owner
		txn  int64
		held []int64
		left []impl.Owner
	}{
		{"of no locks", nil, 1, nil, nil},
		{"of an empty list", []impl.Owner{}, 1, nil, nil},
		{"none", some, 3, nil, some},
		{"some", some, 1, []int64{0, 20}, []impl.Owner{{At: 8, Txn: 2}, {At: 39, Txn: 99}}},
		{"one in the midst", some, 2, []int64{8}, []impl.Owner{{At: 0, Txn: 1}, {At: 20, Txn: 1}, {At: 39, Txn: 99}}},
		{"the last one", some, 99, []int64{39}, []impl.Owner{{At: 0, Txn: 1}, {At: 8, Txn: 2}, {At: 20, Txn: 1}}},
		{"all", all, 7, []int64{0, 20, 39}, nil},
		{"none where another one has all", all, 8, nil, all},
	}
	for _, c := range cases {
		wantWords(t, c.name, impl.HeldBy(c.list, c.txn), c.held)
		wantOwners(t, c.name, impl.FreeLocks(c.list, c.txn), c.left)
		wantOwners(t, c.name+", freed twice", impl.FreeLocks(impl.FreeLocks(c.list, c.txn).Owners, c.txn), c.left)
	}
}

func TestOwnerOfByHand(t *testing.T) {
	some := []impl.Owner{{At: 0, Txn: 1}, {At: 8, Txn: 99}, {At: 39, Txn: 1}}
	for at, want := range map[int64]impl.IntResult{
		0:  {Value: 1},
		1:  {Code: impl.ErrNone},
		7:  {Code: impl.ErrNone},
		8:  {Value: 99},
		9:  {Code: impl.ErrNone},
		38: {Code: impl.ErrNone},
		39: {Value: 1},
	} {
		wantInt(t, "OwnerOf", impl.OwnerOf(some, at), want)
		wantInt(t, "OwnerOf of none", impl.OwnerOf(nil, at), impl.IntResult{Code: impl.ErrNone})
		wantInt(t, "OwnerOf of an empty list", impl.OwnerOf([]impl.Owner{}, at), impl.IntResult{Code: impl.ErrNone})
	}
}

// Five locks, each of nobody or of one of three: whoever asks, whichever lock is asked.
func TestLocksEverywhere(t *testing.T) {
	places, whos := []int64{0, 1, 17, 38, 39}, []int64{0, 1, 50, 99}
	for state := range 4 * 4 * 4 * 4 * 4 {
		var p plainLocks
		for left, i := state, 0; i < len(places); left, i = left/4, i+1 {
			p[places[i]] = whos[left%4]
		}
		for _, txn := range []int64{1, 2, 50, 99} {
			wantAsked(t, p, txn)
			for at := range int64(40) {
				wantTake(t, p, txn, at)
			}
		}
	}
}

// Many locks of many: from a few up to all 40, of two and of all 99.
func TestManyLocks(t *testing.T) {
	rnd := rand.New(rand.NewSource(31))
	for _, txns := range [][]int64{{1}, {1, 99}, {2, 3, 5, 7}, run(1, 99)} {
		for _, of := range []int{1, 2, 10} {
			for range 20 {
				p := randomLocks(rnd, txns, of)
				for _, txn := range []int64{1, 2, 98, 99, txns[rnd.Intn(len(txns))]} {
					wantAsked(t, p, txn)
					for at := range int64(40) {
						wantTake(t, p, txn, at)
					}
				}
			}
		}
	}
}

// All 40 locks are taken one by one by one alone and by forty, then they are had and nobody else gets one.
func TestAllLocksAreTaken(t *testing.T) {
	for _, txns := range []int64{1, 2, 40} {
		var list []impl.Owner
		for at := range int64(40) {
			r := impl.TakeLock(list, 1+at%txns, at)
			wantOwners(t, "TakeLock", r, append(slices.Clone(list), impl.Owner{At: at, Txn: 1 + at%txns}))
			list = r.Owners
		}
		for at := range int64(40) {
			wantOwners(t, "had already", impl.TakeLock(list, 1+at%txns, at), list)
			wantOwnersCode(t, "of another one", impl.TakeLock(list, 99, at), impl.ErrWait)
		}
		for txn := range txns {
			list = impl.FreeLocks(list, txn+1).Owners
		}
		wantOwners(t, "all free", impl.OwnersResult{Owners: list}, nil)
	}
}

// Whatever is asked, from no locks on: what one gets nobody else had, and it is above all that it took since it freed its own.
func TestEachOnesAreTakenUpwards(t *testing.T) {
	rnd := rand.New(rand.NewSource(32))
	for range 60 {
		var list []impl.Owner
		var p plainLocks
		taken := map[int64][]int64{}
		for range 300 {
			txn, at := 1+rnd.Int63n(6), rnd.Int63n(40)
			if rnd.Intn(8) == 0 {
				list = impl.FreeLocks(list, txn).Owners
				p, taken[txn] = p.without(txn), nil
				continue
			}
			was := impl.OwnerOf(list, at)
			r := impl.TakeLock(list, txn, at)
			p = wantTake(t, p, txn, at)
			if r.Code != impl.OK {
				continue
			}
			if was.Code == impl.ErrNone {
				taken[txn] = append(taken[txn], at)
			} else if was.Value != txn {
				t.Fatalf("%v: %d took %d of another one", list, txn, at)
			}
			list = r.Owners
			wantTakenUpwards(t, list, taken)
		}
		wantOwners(t, "all of it", impl.OwnersResult{Owners: list}, p.owners())
	}
}

func wantTakenUpwards(t *testing.T, list []impl.Owner, taken map[int64][]int64) {
	t.Helper()
	count := 0
	for txn, order := range taken {
		if !slices.IsSorted(order) {
			t.Fatalf("%d took %v", txn, order)
		}
		wantWords(t, "HeldBy", impl.HeldBy(list, txn), order)
		count += len(order)
	}
	if count != len(list) {
		t.Fatalf("%d locks, %d taken", len(list), count)
	}
}

// What is taken and freed again leaves the others as they were.
func TestTakenAndFreed(t *testing.T) {
	rnd := rand.New(rand.NewSource(33))
	for range 300 {
		list := randomLocks(rnd, run(1, 5), 3).owners()
		held := list
		for at := range int64(40) {
			if impl.MayTake(held, 77, at) {
				held = impl.TakeLock(held, 77, at).Owners
			}
		}
		if len(held) != 40 {
			t.Fatalf("%d of 40 locks", len(held))
		}
		wantOwners(t, "freed", impl.FreeLocks(held, 77), list)
	}
}

// All who wait at once, each for the lock of another one: along who waits for whom nobody comes back to where he began.
func TestNobodyWaitsInARing(t *testing.T) {
	rnd := rand.New(rand.NewSource(34))
	const txns = 8
	waited := 0
	for range 3000 {
		list := randomLocks(rnd, run(1, txns), 4).owners()
		waitsFor := map[int64]int64{}
		for txn := range int64(txns) {
			at := rnd.Int63n(40)
			if impl.TakeLock(list, txn+1, at).Code == impl.ErrWait {
				waitsFor[txn+1] = impl.OwnerOf(list, at).Value
			}
		}
		for txn := range waitsFor {
			hops := 0
			for next := waitsFor[txn]; next != 0 && hops <= txns; next = waitsFor[next] {
				hops++
			}
			if hops > txns {
				t.Fatalf("%v: a ring in %v", list, waitsFor)
			}
			waited += hops
		}
	}
	if waited < 1000 {
		t.Errorf("hardly anybody waited: %d", waited)
	}
}
