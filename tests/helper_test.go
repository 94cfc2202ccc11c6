package tests

import (
	"reflect"
	"slices"
	"testing"

	"loop.example/g00311/impl"
)

// run gives n words that rise from first on, so that no two places of a block hold the same.
func run(first int64, n int) []int64 {
	var list []int64
	for i := range n {
		list = append(list, first+int64(i))
	}
	return list
}

func same(word int64, n int) []int64 {
	return slices.Repeat([]int64{word}, n)
}

func sameBlocks(a [][]int64, b [][]int64) bool {
	return slices.EqualFunc(a, b, func(x, y []int64) bool { return slices.Equal(x, y) })
}

func samePuts(a []impl.Put, b []impl.Put) bool {
	return slices.EqualFunc(a, b, func(x, y impl.Put) bool { return x.At == y.At && slices.Equal(x.Words, y.Words) })
}

func sameDisks(a impl.Disk, b impl.Disk) bool {
	return sameBlocks(a.Blocks, b.Blocks) && samePuts(a.Cache, b.Cache)
}

// emptyDisk has size blocks, whatever size is.
func emptyDisk(size int) impl.Disk {
	return impl.Disk{Blocks: make([][]int64, size)}
}

// putsAt gives n puts of one word each at the same block.
func putsAt(at int64, n int) []impl.Put {
	var list []impl.Put
	for i := range n {
		list = append(list, impl.Put{At: at, Words: []int64{int64(i)}})
	}
	return list
}

func mustDisk(t *testing.T, r impl.DiskResult) impl.Disk {
	t.Helper()
	if r.Code != impl.OK {
		t.Fatalf("code %d", r.Code)
	}
	return r.Disk
}

// wantCode fails if the code is another than want, or if beside a code that is not OK the rest of the answer is not empty.
func wantCode(t *testing.T, name string, code int64, empty bool, want int64) {
	t.Helper()
	if code != want {
		t.Errorf("%s: code %d, want %d", name, code, want)
	}
	if code != impl.OK && !empty {
		t.Errorf("%s: beside code %d there is something", name, code)
	}
}

func wantDiskCode(t *testing.T, name string, r impl.DiskResult, code int64) {
	t.Helper()
	wantCode(t, name, r.Code, len(r.Disk.Blocks) == 0 && len(r.Disk.Cache) == 0, code)
}

func wantIntsCode(t *testing.T, name string, r impl.IntsResult, code int64) {
	t.Helper()
	wantCode(t, name, r.Code, len(r.List) == 0, code)
}

func wantWords(t *testing.T, name string, r impl.IntsResult, want []int64) {
	t.Helper()
	if r.Code != impl.OK || !slices.Equal(r.List, want) {
		t.Errorf("%s: %v, want %v", name, r, want)
	}
}

func sameHeaders(a impl.Header, b impl.Header) bool {
	return a.Seq == b.Seq && a.Start == b.Start && slices.Equal(a.Addrs, b.Addrs)
}

func wantHeaderResult(t *testing.T, name string, r impl.HeaderResult, want impl.HeaderResult) {
	t.Helper()
	if r.Code != want.Code || !sameHeaders(r.Header, want.Header) {
		t.Errorf("%s: %v, want %v", name, r, want)
	}
}

func wantHeader(t *testing.T, name string, r impl.HeaderResult, want impl.Header) {
	t.Helper()
	wantHeaderResult(t, name, r, impl.HeaderResult{Header: want})
}

func wantHeaderCode(t *testing.T, name string, r impl.HeaderResult, code int64) {
	t.Helper()
	wantCode(t, name, r.Code, sameHeaders(r.Header, impl.Header{}), code)
}

func sameSteps(a []impl.Step, b []impl.Step) bool {
	return slices.EqualFunc(a, b, func(x, y impl.Step) bool {
		return x.Flush == y.Flush && x.At == y.At && slices.Equal(x.Words, y.Words)
	})
}

func mustSteps(t *testing.T, r impl.StepsResult) []impl.Step {
	t.Helper()
	if r.Code != impl.OK {
		t.Fatalf("code %d", r.Code)
	}
	return r.Steps
}

func wantSteps(t *testing.T, name string, r impl.StepsResult, want []impl.Step) {
	t.Helper()
	if r.Code != impl.OK || !sameSteps(r.Steps, want) {
		t.Errorf("%s: %v, want %v", name, r, want)
	}
}

func wantStepsCode(t *testing.T, name string, r impl.StepsResult, code int64) {
	t.Helper()
	wantCode(t, name, r.Code, len(r.Steps) == 0, code)
}

func wantPuts(t *testing.T, name string, r impl.PutsResult, want []impl.Put) {
	t.Helper()
	if r.Code != impl.OK || !samePuts(r.Puts, want) {
		t.Errorf("%s: %v, want %v", name, r, want)
	}
}

func wantPutsCode(t *testing.T, name string, r impl.PutsResult, code int64) {
	t.Helper()
	wantCode(t, name, r.Code, len(r.Puts) == 0, code)
}

func wantInt(t *testing.T, name string, r impl.IntResult, want impl.IntResult) {
	t.Helper()
	if r != want {
		t.Errorf("%s: %v, want %v", name, r, want)
	}
}

// span is the memory of a slice, with what its capacity has behind its end.
type span struct{ from, to uintptr }

func spansOf(v reflect.Value) []span {
	var list []span
	switch v.Kind() {
	case reflect.Struct:
		for i := range v.NumField() {
			list = append(list, spansOf(v.Field(i))...)
		}
	case reflect.Slice:
		if size := uintptr(v.Cap()) * v.Type().Elem().Size(); size > 0 {
			list = append(list, span{v.Pointer(), v.Pointer() + size})
		}
		for i := range v.Len() {
			list = append(list, spansOf(v.Index(i))...)
		}
	}
	return list
}

func overlap(a span, b span) bool {
	return a.from < b.to && b.from < a.to
}

// wantNewMemory fails if answer shares memory with one of args, or two lists of it share some.
func wantNewMemory(t *testing.T, name string, answer any, args ...any) {
	t.Helper()
	out := spansOf(reflect.ValueOf(answer))
	for i, a := range out {
		for _, b := range out[i+1:] {
			if overlap(a, b) {
				t.Errorf("%s: two lists of the answer share memory", name)
			}
		}
		for _, arg := range args {
			for _, b := range spansOf(reflect.ValueOf(arg)) {
				if overlap(a, b) {
					t.Errorf("%s: the answer shares memory with an argument", name)
				}
			}
		}
	}
}

// roomy copies v so deep that nothing is shared, each list with room behind its end, which wantUnchanged looks at.
func roomy(v reflect.Value) reflect.Value {
	switch v.Kind() {
	case reflect.Interface:
		return roomy(v.Elem())
	case reflect.Struct:
		c := reflect.New(v.Type()).Elem()
		for i := range v.NumField() {
			c.Field(i).Set(roomy(v.Field(i)))
		}
		return c
	case reflect.Slice:
		c := reflect.MakeSlice(v.Type(), v.Len(), v.Len()+3)
		for i := range v.Len() {
			c.Index(i).Set(roomy(v.Index(i)))
		}
		return c
	}
	return v
}

func roomyCopy[T any](x T) T {
	return roomy(reflect.ValueOf(&x).Elem()).Interface().(T)
}

// wantUnchanged fails if now, which was made by roomyCopy, is another than was, or something was written behind the end of one of its lists.
func wantUnchanged(t *testing.T, name string, now any, was any) {
	t.Helper()
	if !reflect.DeepEqual(now, was) || !roomClean(reflect.ValueOf(now)) {
		t.Errorf("%s: an argument was changed", name)
	}
}

func roomClean(v reflect.Value) bool {
	clean := true
	switch v.Kind() {
	case reflect.Struct:
		for i := range v.NumField() {
			clean = clean && roomClean(v.Field(i))
		}
	case reflect.Slice:
		for i := range v.Len() {
			clean = clean && roomClean(v.Index(i))
		}
		room := v.Slice(0, v.Cap())
		for i := v.Len(); i < room.Len(); i++ {
			clean = clean && room.Index(i).IsZero()
		}
	}
	return clean
}

// namedCall is a function of the program that takes its arguments from an A, whose fields are exported.
type namedCall[A any] struct {
	name string
	call func(args A) any
}

// wantCallsApart fails if a call changes an argument, answers with memory that is not new, or hangs on anything but its arguments.
func wantCallsApart[A any](t *testing.T, calls []namedCall[A], list []A) {
	t.Helper()
	for _, args := range list {
		for _, c := range calls {
			now, was := roomyCopy(args), roomyCopy(args)
			first, second := c.call(now), c.call(now)
			wantUnchanged(t, c.name, now, was)
			wantNewMemory(t, c.name, first, now)
			wantNewMemory(t, c.name+" called twice", first, second)
			wantSameAgain(t, c, calls, args)
		}
	}
}

// wantSameAgain writes into an answer: that must come to light nowhere else, not in a later answer either.
func wantSameAgain[A any](t *testing.T, c namedCall[A], calls []namedCall[A], args A) {
	t.Helper()
	first := c.call(roomyCopy(args))
	want := roomyCopy(first)
	spoil(reflect.ValueOf(&first).Elem().Elem())
	for _, other := range calls {
		other.call(roomyCopy(args))
	}
	if again := roomyCopy(c.call(args)); !reflect.DeepEqual(again, want) {
		t.Fatalf("%s: %v, then %v", c.name, want, again)
	}
}

func spoil(v reflect.Value) {
	switch v.Kind() {
	case reflect.Struct:
		for i := range v.NumField() {
			spoil(v.Field(i))
		}
	case reflect.Slice:
		for i := range v.Len() {
			spoil(v.Index(i))
		}
	case reflect.Int64:
		if v.CanSet() {
			v.SetInt(-77)
		}
	}
}
