package tests

import (
	"testing"

	"loop.example/g00311/impl"
)

// Promise 1: the functions of what is seen change no argument, their answers are new memory and hang on the arguments alone.

type viewArgs struct {
	Disk impl.Disk
	At   int64
	A    []impl.Put
	B    []impl.Put
}

func viewArgsList() []viewArgs {
	cached := hollowDisk(9, 22, 4)
	cached.Cache = []impl.Put{{At: 25, Words: run(1, 9)}, {At: 3, Words: nil}, {At: 60, Words: run(8, 2)}, {At: 61}}
	wrong := logDisk(9, 22, 4)
	wrong.Cache = putsAt(66, 1)
	disks := []impl.Disk{{}, formatted(5), logDisk(8, 20, 7), logDisk(7, 23, 24), hollowDisk(7, 23, 24), cached, wrong}
	lists := [][]impl.Put{
		nil,
		{{At: 3, Words: run(1, 64)}},
		{{At: 0, Words: run(9, 2)}, {At: 3, Words: run(4, 1)}, {At: 39, Words: run(5, 33)}},
		{{At: 3}, {At: 5, Words: run(4, 3)}, {At: 3, Words: run(8, 8)}},
		{{At: 9, Words: run(4, 3)}, {At: 0}},
		putsAt(7, 60),
		{{At: 40, Words: run(1, 2)}},
	}
	var list []viewArgs
	for i, a := range lists {
		for j, b := range lists {
			list = append(list, viewArgs{disks[(i+j)%len(disks)], int64(i*7+j) - 1, a, b})
		}
	}
	return list
}

func viewCalls() []namedCall[viewArgs] {
	return []namedCall[viewArgs]{
		{"ViewOf", func(a viewArgs) any { return impl.ViewOf(a.Disk) }},
		{"ReadHome", func(a viewArgs) any { return impl.ReadHome(a.Disk, a.At) }},
		{"AbsorbPuts", func(a viewArgs) any { return impl.AbsorbPuts(a.A, a.B) }},
		{"ApplyPuts", func(a viewArgs) any { return impl.ApplyPuts(a.A, a.B) }},
		{"SameViews", func(a viewArgs) any { return impl.SameViews(a.A, a.B) }},
		{"RoomIn", func(a viewArgs) any { return impl.RoomIn(a.Disk) }},
	}
}

func TestViewCallsKeepToTheirArguments(t *testing.T) {
	wantCallsApart(t, viewCalls(), viewArgsList())
}

// Slots, home blocks, views and puts that are one list: the answer still shares nothing.
func TestSharedWordsLeadToViewsOfTheirOwn(t *testing.T) {
	words := run(1, 50)
	d := sharedDisk(words)
	view := []impl.Put{{At: 1, Words: words}, {At: 2, Words: words}, {At: 3, Words: words}}
	puts := []impl.Put{{At: 4, Words: words}, {At: 1, Words: words}, {At: 4, Words: words}}
	wantNewMemory(t, "ViewOf", impl.ViewOf(d), d)
	for at := range int64(40) {
		wantNewMemory(t, "ReadHome", impl.ReadHome(d, at), d)
	}
	wantNewMemory(t, "AbsorbPuts", impl.AbsorbPuts(view, puts), view, puts)
	wantNewMemory(t, "ApplyPuts", impl.ApplyPuts(view, puts), view, puts)
	wantNewMemory(t, "ApplyPuts of no puts", impl.ApplyPuts(view, nil), view)
	wantNewMemory(t, "AbsorbPuts of one list", impl.AbsorbPuts(view, view), view)
	wantNewMemory(t, "AbsorbPuts of nothing and one", impl.AbsorbPuts(nil, view), view)
}
