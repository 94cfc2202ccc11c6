package tests

import (
	"math"
	"math/rand"
	"slices"
	"testing"

	"loop.example/g00311/impl"
)

// Promise 1: the functions of files answer at every argument. Here: which code, and which of two comes first.

// plainFilesFault asks what the chapter says word by word, each file by itself, blocks one against the other.
func plainFilesFault(list []impl.File) int64 {
	if len(list) > 4 {
		return impl.ErrMany
	}
	var codes []int64
	for i, f := range list {
		codes = append(codes, plainFileFault(f))
		if i > 0 {
			codes = append(codes, notAbove(f.Name, list[i-1].Name))
		}
	}
	if code := firstCode(codes...); code != impl.OK {
		return code
	}
	var had [23]bool
	for _, f := range list {
		for _, at := range f.Blocks {
			if had[at] {
				return impl.ErrTaken
			}
			had[at] = true
		}
	}
	return impl.OK
}

func plainFileFault(f impl.File) int64 {
	if f.Name < 1 || f.Name > 99 || f.Size < 0 || f.Size > 40 {
		return impl.ErrRange
	}
	if int64(len(f.Blocks)) != plainNeeds(f.Size) {
		return impl.ErrForm
	}
	for _, at := range f.Blocks {
		if at < 3 || at > 22 {
			return impl.ErrRange
		}
	}
	return impl.OK
}

type filesCase struct {
	name string
	list []impl.File
	code int64
}

// hollowFiles gives n files of no words, names rising from first on.
func hollowFiles(first int64, n int) []impl.File {
	var list []impl.File
	for i := range int64(n) {
		list = append(list, fileOf(first+i, 0))
	}
	return list
}

func filesCases() []filesCase {
	two := fileOf(2, 1, 3)
	list := []filesCase{
		{"no files", nil, impl.OK},
		{"an empty list", []impl.File{}, impl.OK},
		{"the zero value", []impl.File{{}}, impl.ErrRange},
		{"one of no words", []impl.File{fileOf(1, 0)}, impl.OK},
		{"4 files", hollowFiles(1, 4), impl.OK},
		{"5 files", hollowFiles(1, 5), impl.ErrMany},
		{"1000 files", hollowFiles(1, 1000), impl.ErrMany},
		{"5 ahead of a name", hollowFiles(0, 5), impl.ErrMany},
		{"5 of one name", slices.Repeat([]impl.File{two}, 5), impl.ErrMany},
		{"4 of one name and block", slices.Repeat([]impl.File{two}, 4), impl.ErrForm},
		{"one name twice", []impl.File{fileOf(5, 0), fileOf(5, 0)}, impl.ErrForm},
		{"one name twice, all else differs", []impl.File{fileOf(5, 0), fileOf(5, 1, 3)}, impl.ErrForm},
		{"one name twice, not side by side", []impl.File{fileOf(5, 0), fileOf(6, 0), fileOf(5, 0)}, impl.ErrForm},
		{"names fall", []impl.File{fileOf(6, 0), fileOf(5, 0)}, impl.ErrForm},
		{"names fall from end to end", []impl.File{fileOf(99, 0), fileOf(1, 0)}, impl.ErrForm},
		{"names rise from end to end", []impl.File{fileOf(1, 0), fileOf(99, 0)}, impl.OK},
		{"names rise, then fall", []impl.File{fileOf(5, 0), fileOf(9, 0), fileOf(8, 0)}, impl.ErrForm},
		{"blocks that fall", []impl.File{fileOf(5, 40, 22, 21, 20, 4, 3)}, impl.OK},
		{"blocks of two that fall", []impl.File{fileOf(5, 1, 22), fileOf(6, 1, 3)}, impl.OK},
		{"a block twice in one", []impl.File{fileOf(5, 9, 3, 3)}, impl.ErrTaken},
		{"a block twice in one, not side by side", []impl.File{fileOf(5, 17, 3, 4, 3)}, impl.ErrTaken},
		{"a block twice in the last one", []impl.File{two, fileOf(5, 9, 22, 22)}, impl.ErrTaken},
		{"a block in two", []impl.File{two, fileOf(5, 1, 3)}, impl.ErrTaken},
		{"a block in the first and the last", []impl.File{two, fileOf(5, 0), fileOf(6, 1, 4), fileOf(7, 17, 6, 5, 3)}, impl.ErrTaken},
		{"a block in two, the last one of the first", []impl.File{fileOf(5, 9, 3, 4), fileOf(6, 9, 5, 4)}, impl.ErrTaken},
		{"a block in all", []impl.File{fileOf(1, 1, 9), fileOf(2, 1, 9), fileOf(3, 1, 9), fileOf(4, 1, 9)}, impl.ErrTaken},
		{"no words, but a block", []impl.File{fileOf(5, 0, 3)}, impl.ErrForm},
		{"words, but no block", []impl.File{fileOf(5, 1)}, impl.ErrForm},
		{"1000 blocks", []impl.File{fileOf(5, 40, run(3, 1000)...)}, impl.ErrForm},
		{"1000 of one block", []impl.File{fileOf(5, 40, same(3, 1000)...)}, impl.ErrForm},
		{"6 blocks of 40 words", []impl.File{fileOf(5, 40, run(3, 6)...)}, impl.ErrForm},
		{"6 blocks of 41 words", []impl.File{fileOf(5, 41, run(3, 6)...)}, impl.ErrRange},
		{"a name ahead of too few blocks", []impl.File{fileOf(100, 1)}, impl.ErrRange},
		{"a size ahead of too few blocks", []impl.File{fileOf(5, 41)}, impl.ErrRange},
		{"a size below 0 and no blocks", []impl.File{fileOf(5, -1)}, impl.ErrRange},
		{"a size of -8 and a block", []impl.File{fileOf(5, -8, 3)}, impl.ErrRange},
		{"too few blocks ahead of a block", []impl.File{fileOf(5, 9, 2)}, impl.ErrForm},
		{"too many blocks ahead of a block", []impl.File{fileOf(5, 8, 2, 23)}, impl.ErrForm},
		{"too many blocks ahead of one twice", []impl.File{fileOf(5, 8, 3, 3)}, impl.ErrForm},
		{"too few blocks ahead of a name that falls", []impl.File{fileOf(5, 0), fileOf(4, 1)}, impl.ErrForm},
		{"a block ahead of one twice", []impl.File{fileOf(5, 17, 3, 3, 2)}, impl.ErrRange},
		{"a block twice that is none", []impl.File{fileOf(5, 9, 23, 23)}, impl.ErrRange},
		{"a block ahead of a name that falls", []impl.File{fileOf(5, 0), fileOf(4, 1, 23)}, impl.ErrRange},
		{"a name ahead of that it falls", []impl.File{fileOf(5, 0), fileOf(0, 0)}, impl.ErrRange},
		{"a size ahead of a name that falls", []impl.File{fileOf(5, 0), fileOf(4, 41)}, impl.ErrRange},
		{"a name that falls ahead of a block in two", []impl.File{fileOf(5, 1, 3), fileOf(4, 1, 3)}, impl.ErrForm},
		{"a name that falls behind a block twice", []impl.File{fileOf(5, 9, 3, 3), fileOf(4, 0)}, impl.ErrForm},
		{"one by one: a name that falls ahead of a size", []impl.File{fileOf(5, 0), fileOf(4, 0), fileOf(6, 41)}, impl.ErrForm},
		{"one by one: a name that falls ahead of a block", []impl.File{fileOf(5, 0), fileOf(5, 0), fileOf(6, 1, 2)}, impl.ErrForm},
		{"one by one: too few blocks ahead of a name", []impl.File{fileOf(5, 1), fileOf(100, 0)}, impl.ErrForm},
		{"one by one: too few blocks ahead of a block", []impl.File{fileOf(5, 1), fileOf(6, 1, 2)}, impl.ErrForm},
		{"one by one: a block ahead of too few blocks", []impl.File{fileOf(5, 1, 2), fileOf(6, 1)}, impl.ErrRange},
		{"one by one: a name ahead of too few blocks", []impl.File{fileOf(0, 0), fileOf(6, 1)}, impl.ErrRange},
		{"one by one: a size ahead of names that fall", []impl.File{fileOf(5, 41), fileOf(4, 0)}, impl.ErrRange},
		{"then a block twice: behind a size", []impl.File{fileOf(5, 9, 3, 3), fileOf(6, 41)}, impl.ErrRange},
		{"then a block twice: behind too few blocks", []impl.File{fileOf(5, 9, 3, 3), fileOf(6, 1)}, impl.ErrForm},
		{"then a block twice: behind a block", []impl.File{fileOf(5, 1, 3), fileOf(6, 1, 3), fileOf(7, 1, 23)}, impl.ErrRange},
	}
	for _, c := range numberCases(1, 99) {
		list = append(list,
			filesCase{"Name is " + c.name, []impl.File{fileOf(c.number, 0)}, c.code},
			filesCase{"the last Name is " + c.name, []impl.File{fileOf(1, 0), fileOf(c.number, 0)}, firstCode(c.code, notAbove(c.number, 1))})
	}
	for _, c := range numberCases(3, 22) {
		list = append(list,
			filesCase{"a block is " + c.name, []impl.File{fileOf(5, 8, c.number)}, c.code},
			filesCase{"the last block is " + c.name, []impl.File{two, fileOf(5, 17, 9, 10, c.number)}, firstCode(c.code, takenAt(c.number, 3))})
	}
	for _, size := range []int64{math.MinInt64, math.MinInt32, -41, -8, -7, -1, 41, 48, 1 << 32, 1<<32 + 1, math.MaxInt64 - 7, math.MaxInt64} {
		for n := range 7 {
			list = append(list, filesCase{"a size out of its bounds", []impl.File{fileOf(5, size, run(3, n)...)}, impl.ErrRange})
		}
	}
	return list
}

func takenAt(number int64, at int64) int64 {
	if number == at {
		return impl.ErrTaken
	}
	return impl.OK
}

func TestFilesFault(t *testing.T) {
	for _, c := range filesCases() {
		if code := impl.FilesFault(c.list); code != c.code {
			t.Errorf("%s: %d, want %d", c.name, code, c.code)
		}
		if code := plainFilesFault(c.list); code != c.code {
			t.Errorf("%s: the plain one says %d, want %d", c.name, code, c.code)
		}
	}
}

// Each size with none up to seven blocks: just as many as are needed are right.
func TestEachSizeNeedsItsBlocks(t *testing.T) {
	needs := []struct{ size, n int64 }{{0, 0}, {1, 1}, {7, 1}, {8, 1}, {9, 2}, {16, 2}, {17, 3}, {24, 3}, {25, 4}, {32, 4}, {33, 5}, {39, 5}, {40, 5}}
	for _, c := range needs {
		if plainNeeds(c.size) != c.n {
			t.Errorf("the plain one says that %d words need %d blocks", c.size, plainNeeds(c.size))
		}
	}
	for size := int64(-2); size <= 43; size++ {
		for n := range int64(8) {
			want := int64(impl.OK)
			if size < 0 || size > 40 {
				want = impl.ErrRange
			} else if n != plainNeeds(size) {
				want = impl.ErrForm
			}
			if got := impl.FilesFault([]impl.File{fileOf(5, size, run(3, int(n))...)}); got != want {
				t.Errorf("%d words, %d blocks: %d, want %d", size, n, got, want)
			}
		}
	}
}

// All pairs of files that have some of all faults: one by one each fault in its order, a block that stands twice behind all of them.
func TestFilesFaultOfTwo(t *testing.T) {
	var files []impl.File
	for _, name := range []int64{math.MinInt64, 0, 1, 2, 99, 100, math.MaxInt64} {
		for _, size := range []int64{-1, 0, 8, 9, 41, math.MaxInt64} {
			for _, blocks := range [][]int64{nil, {3}, {23}, {3, 3}, {3, 4}, {2, 3}} {
				files = append(files, fileOf(name, size, blocks...))
			}
		}
	}
	for _, a := range files {
		for _, b := range files {
			list := []impl.File{a, b}
			if got, want := impl.FilesFault(list), plainFilesFault(list); got != want {
				t.Fatalf("%v: %d, want %d", list, got, want)
			}
		}
	}
}

// Random lists of none up to six files, each with a fault or none.
func TestFilesFaultOfMany(t *testing.T) {
	rnd := rand.New(rand.NewSource(54))
	for range 200000 {
		p := randomDir(rnd, rnd.Intn(5), 99).files()
		for range rnd.Intn(3) {
			if len(p) == 0 || rnd.Intn(8) == 0 {
				p = append(p, randomFile(rnd, 99))
				continue
			}
			spoilFile(rnd, p)
		}
		if got, want := impl.FilesFault(p), plainFilesFault(p); got != want {
			t.Fatalf("%v: %d, want %d", p, got, want)
		}
	}
}

// spoilFile changes one thing of one of the files, which may come to a fault or to none.
func spoilFile(rnd *rand.Rand, list []impl.File) {
	f := &list[rnd.Intn(len(list))]
	switch rnd.Intn(5) {
	case 0:
		f.Name = []int64{0, 1, 99, 100, 1 + rnd.Int63n(99)}[rnd.Intn(5)]
	case 1:
		f.Size = []int64{-1, 0, 40, 41, rnd.Int63n(41)}[rnd.Intn(5)]
	case 2:
		f.Blocks = append(f.Blocks[:len(f.Blocks):len(f.Blocks)], 3+rnd.Int63n(20))
	case 3:
		f.Blocks = f.Blocks[:len(f.Blocks)/2]
	case 4:
		if len(f.Blocks) > 0 {
			f.Blocks[rnd.Intn(len(f.Blocks))] = 2 + rnd.Int63n(22)
		}
	}
}

// Beside files that have a fault nothing is told, whatever else is asked; beside those that have none, each function's own codes.
func TestFilesCodes(t *testing.T) {
	for _, c := range filesCases() {
		wantIntsCode(t, c.name, impl.PackDir(c.list), c.code)
		wantIntsCode(t, c.name, impl.BlocksIn(c.list), c.code)
		for _, name := range append(numberCases(1, 99), numberCase{"5", 5, impl.OK}, numberCase{"0", 0, impl.ErrRange}) {
			none := int64(impl.ErrNone)
			if slices.ContainsFunc(c.list, func(f impl.File) bool { return f.Name == name.number }) {
				none = impl.OK
			}
			wantFilesCode(t, c.name+", name is "+name.name, impl.FileAt(c.list, name.number), firstCode(c.code, none))
			wantFilesCode(t, c.name+", name is "+name.name, impl.DropFile(c.list, name.number), firstCode(c.code, none))
			for _, to := range append(numberCases(1, 99), numberCase{"5", 5, impl.OK}) {
				wantFilesCode(t, c.name+", name is "+name.name+", to is "+to.name, impl.RenameFile(c.list, name.number, to.number), firstCode(c.code, none, to.code))
			}
		}
	}
}

// A put asks the files, then what comes of them: too many ahead of what the file has, and this ahead of a block that stands twice.
func TestPutFileCodes(t *testing.T) {
	var puts []impl.File
	for _, c := range filesCases() {
		puts = append(puts, c.list...)
		if len(puts) > 200 {
			break
		}
	}
	puts = append(puts, fileOf(math.MinInt64, 0), fileOf(math.MaxInt64, 0), fileOf(5, math.MaxInt64), fileOf(5, math.MinInt64), fileOf(1, 1, math.MaxInt64))
	for _, c := range filesCases() {
		for _, f := range puts {
			code := c.code
			if code == impl.OK {
				code = firstCode(tooMany(c.list, f), plainFileFault(f))
			}
			if code == impl.OK {
				code = firstCode(plainFilesFault([]impl.File{f}), plainDirOf(c.list).putCode(f))
			}
			wantFilesCode(t, c.name+", put", impl.PutFile(c.list, f), code)
		}
	}
}

func tooMany(list []impl.File, f impl.File) int64 {
	if len(list) == 4 && !slices.ContainsFunc(list, func(other impl.File) bool { return other.Name == f.Name }) {
		return impl.ErrMany
	}
	return impl.OK
}

func TestPutFileCodesByHand(t *testing.T) {
	two := []impl.File{fileOf(10, 9, 3, 4), fileOf(20, 1, 5)}
	four := []impl.File{fileOf(10, 9, 3, 4), fileOf(20, 1, 5), fileOf(30, 0), fileOf(40, 1, 6)}
	cases := []struct {
		name string
		list []impl.File
		f    impl.File
		code int64
	}{
		{"a fifth file ahead", four, fileOf(9, 0), impl.ErrMany},
		{"a fifth file between", four, fileOf(25, 0), impl.ErrMany},
		{"a fifth file behind", four, fileOf(41, 0), impl.ErrMany},
		{"a fifth file with a name", four, fileOf(0, 0), impl.ErrMany},
		{"a fifth file with a size", four, fileOf(9, 41), impl.ErrMany},
		{"a fifth file with a block of another", four, fileOf(9, 1, 3), impl.ErrMany},
		{"five where the files have a fault", append(slices.Clone(four[1:]), fileOf(40, 0)), fileOf(1, 0), impl.ErrForm},
		{"one of four", four, fileOf(30, 1, 7), impl.OK},
		{"one of four, with a size", four, fileOf(30, 41), impl.ErrRange},
		{"one of four, with a block of another", four, fileOf(30, 1, 6), impl.ErrTaken},
		{"the name 0", two, fileOf(0, 0), impl.ErrRange},
		{"the name 1", two, fileOf(1, 0), impl.OK},
		{"the name 99", two, fileOf(99, 0), impl.OK},
		{"the name 100", two, fileOf(100, 0), impl.ErrRange},
		{"the zero value", nil, impl.File{}, impl.ErrRange},
		{"a block of the one ahead", two, fileOf(15, 1, 4), impl.ErrTaken},
		{"a block of the one behind", two, fileOf(15, 1, 5), impl.ErrTaken},
		{"a block twice in it", two, fileOf(15, 9, 6, 6), impl.ErrTaken},
		{"a block twice in the first one", nil, fileOf(15, 9, 6, 6), impl.ErrTaken},
		{"a block of its own and one of another", two, fileOf(10, 9, 3, 5), impl.ErrTaken},
		{"its own block twice", two, fileOf(20, 9, 5, 5), impl.ErrTaken},
		{"its own blocks", two, fileOf(10, 9, 4, 3), impl.OK},
		{"too few blocks", two, fileOf(15, 9, 6), impl.ErrForm},
		{"too many blocks, one of another", two, fileOf(15, 8, 6, 3), impl.ErrForm},
		{"too many blocks in the place of one", two, fileOf(10, 8, 3, 4), impl.ErrForm},
		{"a block that is none, and one of another", two, fileOf(15, 9, 3, 23), impl.ErrRange},
		{"files with a fault that the put would mend", []impl.File{fileOf(10, 1), fileOf(20, 0)}, fileOf(10, 0), impl.ErrForm},
		{"files with a block twice that the put would mend", []impl.File{fileOf(10, 1, 3), fileOf(20, 1, 3)}, fileOf(10, 0), impl.ErrTaken},
		{"files with a fault ahead of that of the file", []impl.File{fileOf(10, 1)}, fileOf(0, 0), impl.ErrForm},
	}
	for _, c := range cases {
		wantFilesCode(t, c.name, impl.PutFile(c.list, c.f), c.code)
	}
}

// A name that nobody has is none, whatever its bounds; that is asked ahead of the new name.
func TestRenameFileCodes(t *testing.T) {
	two := []impl.File{fileOf(10, 9, 3, 4), fileOf(20, 0)}
	cases := []struct {
		name string
		from int64
		to   int64
		code int64
	}{
		{"to 1", 10, 1, impl.OK},
		{"to 99", 10, 99, impl.OK},
		{"to 0", 10, 0, impl.ErrRange},
		{"to 100", 20, 100, impl.ErrRange},
		{"to below 0", 10, -10, impl.ErrRange},
		{"to the greatest", 20, math.MaxInt64, impl.ErrRange},
		{"to the least", 10, math.MinInt64, impl.ErrRange},
		{"of none", 15, 16, impl.ErrNone},
		{"of none, to one", 15, 10, impl.ErrNone},
		{"of none, to its own name", 15, 15, impl.ErrNone},
		{"of none, to 0", 15, 0, impl.ErrNone},
		{"of 0, to 100", 0, 100, impl.ErrNone},
		{"of 0, to 0", 0, 0, impl.ErrNone},
		{"of the greatest, to itself", math.MaxInt64, math.MaxInt64, impl.ErrNone},
	}
	for _, c := range cases {
		wantFilesCode(t, c.name, impl.RenameFile(two, c.from, c.to), c.code)
	}
	wantFilesCode(t, "of no files, to 0", impl.RenameFile(nil, 10, 0), impl.ErrNone)
}

func TestUnpackDirCodes(t *testing.T) {
	for _, c := range wordsCases() {
		code := c.code
		if code == impl.OK && len(c.words) > 0 && !slices.Equal(c.words, []int64{0}) {
			code = impl.ErrText
		}
		wantFilesCode(t, c.name, impl.UnpackDir(c.words), code)
	}
	cases := []struct {
		name  string
		words []int64
		code  int64
	}{
		{"no words", nil, impl.OK},
		{"a 0 alone", []int64{0}, impl.OK},
		{"two words 0", []int64{0, 0}, impl.ErrText},
		{"three words 0", []int64{0, 0, 0}, impl.ErrText},
		{"64 words 0", same(0, 64), impl.ErrText},
		{"65 words 0", same(0, 65), impl.ErrMany},
		{"a count alone", []int64{1}, impl.ErrText},
		{"the greatest count alone", []int64{65535}, impl.ErrText},
		{"a name alone", []int64{1, 7}, impl.ErrText},
		{"a file of no words", []int64{1, 7, 0}, impl.OK},
		{"and a word too many", []int64{1, 7, 0, 3}, impl.ErrText},
		{"and a 0 too many", []int64{1, 7, 0, 0}, impl.ErrText},
		{"a block is cut off", []int64{1, 7, 1}, impl.ErrText},
		{"the second block is cut off", []int64{1, 7, 9, 3}, impl.ErrText},
		{"both blocks", []int64{1, 7, 9, 3, 4}, impl.OK},
		{"a block too many", []int64{1, 7, 9, 3, 4, 5}, impl.ErrText},
		{"a count too great", []int64{2, 7, 9, 3, 4}, impl.ErrText},
		{"a count too small", []int64{0, 7, 9, 3, 4}, impl.ErrText},
		{"a count too small by one of two", []int64{1, 7, 1, 3, 8, 1, 4}, impl.ErrText},
		{"two", []int64{2, 7, 1, 3, 8, 1, 4}, impl.OK},
		{"two, a count too great by one", []int64{3, 7, 1, 3, 8, 1, 4}, impl.ErrText},
		{"five of no words", []int64{5, 1, 0, 2, 0, 3, 0, 4, 0, 5, 0}, impl.ErrText},
		{"five of no words, the count is 4", []int64{4, 1, 0, 2, 0, 3, 0, 4, 0, 5, 0}, impl.ErrText},
		{"the name 0", []int64{1, 0, 0}, impl.ErrText},
		{"the name 99", []int64{1, 99, 0}, impl.OK},
		{"the name 100", []int64{1, 100, 0}, impl.ErrText},
		{"the size 41", slices.Concat([]int64{1, 7, 41}, run(3, 6)), impl.ErrText},
		{"the greatest size", []int64{1, 7, 65535, 3}, impl.ErrText},
		{"block 2", []int64{1, 7, 1, 2}, impl.ErrText},
		{"block 23", []int64{1, 7, 1, 23}, impl.ErrText},
		{"names that fall", []int64{2, 8, 0, 7, 0}, impl.ErrText},
		{"one name twice", []int64{2, 7, 0, 7, 0}, impl.ErrText},
		{"a block twice in one", []int64{1, 7, 9, 3, 3}, impl.ErrText},
		{"a block in two", []int64{2, 7, 1, 3, 8, 1, 3}, impl.ErrText},
		{"a word below 0", []int64{1, 7, -1}, impl.ErrRange},
		{"a word above the greatest", []int64{1, 7, 65536}, impl.ErrRange},
		{"the least int64", []int64{math.MinInt64}, impl.ErrRange},
		{"the greatest int64", []int64{1, 7, math.MaxInt64, 3}, impl.ErrRange},
		{"cut off ahead of a word below 0", []int64{9, 9, 9, -1}, impl.ErrRange},
		{"64 words, the last below 0", append(same(0, 63), -1), impl.ErrRange},
		{"65 words below 0", same(-1, 65), impl.ErrMany},
		{"a directory and 60 words behind it", append([]int64{1, 7, 9, 3, 4}, same(0, 60)...), impl.ErrMany},
	}
	for _, c := range cases {
		wantFilesCode(t, c.name, impl.UnpackDir(c.words), c.code)
	}
}

func TestNilAndEmptyAreTheSameToFiles(t *testing.T) {
	none, bare := []impl.File{}, impl.File{Name: 5, Blocks: []int64{}}
	wantWords(t, "PackDir", impl.PackDir(none), impl.PackDir(nil).List)
	wantWords(t, "BlocksIn", impl.BlocksIn(none), impl.BlocksIn(nil).List)
	wantFiles(t, "UnpackDir", impl.UnpackDir([]int64{}), impl.UnpackDir(nil).Files)
	wantFiles(t, "PutFile", impl.PutFile(none, bare), impl.PutFile(nil, fileOf(5, 0)).Files)
	wantFilesCode(t, "FileAt", impl.FileAt(none, 5), impl.ErrNone)
	wantFilesCode(t, "DropFile", impl.DropFile(none, 5), impl.ErrNone)
	wantFilesCode(t, "RenameFile", impl.RenameFile(none, 5, 6), impl.ErrNone)
	one := []impl.File{bare}
	wantFiles(t, "FileAt of one", impl.FileAt(one, 5), []impl.File{fileOf(5, 0)})
	wantFiles(t, "RenameFile of one", impl.RenameFile(one, 5, 6), []impl.File{fileOf(6, 0)})
	wantFiles(t, "UnpackDir of one", impl.UnpackDir([]int64{1, 5, 0}), one)
	if impl.FilesFault(none) != impl.FilesFault(nil) || impl.FilesFault(one) != impl.OK {
		t.Error("an empty list and nil differ")
	}
}
