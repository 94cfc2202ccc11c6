package tests

import (
	"slices"
	"testing"

	"loop.example/g00311/impl"
)

// Promise 1: the functions of the circular log change no argument, their answers are new memory and hang on the arguments alone.

type circArgs struct {
	Disk   impl.Disk
	Puts   []impl.Put
	Steps  []impl.Step
	Header impl.Header
	I      int64
}

func circArgsList() []circArgs {
	cached := logDisk(9, 22, 4)
	cached.Cache = []impl.Put{{At: 25, Words: run(1, 9)}, {At: 3, Words: run(5, 64)}, {At: 60, Words: run(8, 2)}}
	wrong := logDisk(9, 22, 4)
	wrong.Cache = putsAt(66, 1)
	disks := []impl.Disk{{}, formatted(5), logDisk(8, 20, 7), logDisk(7, 23, 24), cached, logDisk(65000, 3, 2), wrong}
	batches := [][]impl.Put{nil, batchOf(1), batchOf(4), batchOf(12), batchOf(13), {{At: 40, Words: run(1, 3)}}, {{At: 4, Words: same(1, 65)}}}
	put, flush := impl.Step{At: 3, Words: run(40, 33)}, impl.Step{Flush: true}
	steps := [][]impl.Step{nil, {flush}, {put}, {put, flush, put, put}, {put, {At: 66, Words: run(1, 2)}}, {{Flush: true, Words: run(1, 2)}}, slices.Repeat([]impl.Step{put}, 121)}
	headers := []impl.Header{{}, {Seq: 1, Start: 23, Addrs: addrsOf(24)}, {Seq: 2, Addrs: addrsOf(25)}}
	var list []circArgs
	for i, d := range disks {
		for j, puts := range batches {
			n := i + j
			list = append(list, circArgs{d, puts, steps[n%len(steps)], headers[n%len(headers)], int64(n*5 - 1)})
		}
	}
	return list
}

func formatted(seq int64) impl.Disk {
	return impl.FormatDisk(seq).Disk
}

func circCalls() []namedCall[circArgs] {
	return []namedCall[circArgs]{
		{"StepFault", func(a circArgs) any { return impl.StepFault(slices.Concat(a.Steps, []impl.Step{{}})[0]) }},
		{"FormatDisk", func(a circArgs) any { return impl.FormatDisk(a.I) }},
		{"PlanAppend", func(a circArgs) any { return impl.PlanAppend(a.Disk, a.Puts) }},
		{"PlanInstall", func(a circArgs) any { return impl.PlanInstall(a.Disk) }},
		{"RunSteps", func(a circArgs) any { return impl.RunSteps(a.Disk, a.Steps) }},
		{"LogOf", func(a circArgs) any { return impl.LogOf(a.Disk) }},
		{"SlotOf", func(a circArgs) any { return impl.SlotOf(a.Header, a.I) }},
	}
}

func TestCircCallsKeepToTheirArguments(t *testing.T) {
	wantCallsApart(t, circCalls(), circArgsList())
}

// sharedDisk has the same list in its slots, its home blocks and its cache.
func sharedDisk(words []int64) impl.Disk {
	d := logDisk(9, 22, 4)
	for at := 2; at < 66; at++ {
		d.Blocks[at] = words
	}
	d.Cache = []impl.Put{{At: 25, Words: words}, {At: 3, Words: words}, {At: 30, Words: words}}
	return d
}

// Puts, steps and slots that are one list: the answer still shares nothing.
func TestSharedWordsLeadToStepsOfTheirOwn(t *testing.T) {
	words := run(1, 50)
	d := sharedDisk(words)
	puts := []impl.Put{{At: 1, Words: words}, {At: 1, Words: words}, {At: 2, Words: words}}
	steps := []impl.Step{{At: 1, Words: words}, {At: 2, Words: words}, {Flush: true}, {At: 1, Words: words}}
	wantNewMemory(t, "PlanAppend", impl.PlanAppend(d, puts), d, puts)
	wantNewMemory(t, "PlanInstall", impl.PlanInstall(d), d)
	wantNewMemory(t, "LogOf", impl.LogOf(d), d)
	for n := range len(steps) + 1 {
		wantNewMemory(t, "RunSteps", impl.RunSteps(d, steps[:n]), d, steps)
	}
}
