package tests

import (
	"math/rand"
	"slices"
	"testing"

	"loop.example/g00311/impl"
)

// Promise 9: a file that is put is there, all others stay; a directory is read back from its words; what is renamed has all that it had, and what had its new name is gone.

func fileOf(name int64, size int64, blocks ...int64) impl.File {
	return impl.File{Name: name, Size: size, Blocks: blocks}
}

func sameFile(a impl.File, b impl.File) bool {
	return a.Name == b.Name && a.Size == b.Size && slices.Equal(a.Blocks, b.Blocks)
}

func sameFiles(a []impl.File, b []impl.File) bool {
	return slices.EqualFunc(a, b, sameFile)
}

func wantFiles(t *testing.T, name string, r impl.FilesResult, want []impl.File) {
	t.Helper()
	if r.Code != impl.OK || !sameFiles(r.Files, want) {
		t.Fatalf("%s: %v, want %v", name, r, want)
	}
}

func wantFilesCode(t *testing.T, name string, r impl.FilesResult, code int64) {
	t.Helper()
	wantCode(t, name, r.Code, len(r.Files) == 0, code)
}

// plainDir holds for each of the names 1 to 99 what was put there last, and nothing of what is gone.
type plainDir map[int64]impl.File

func plainDirOf(list []impl.File) plainDir {
	p := plainDir{}
	for _, f := range list {
		p[f.Name] = f
	}
	return p
}

func (p plainDir) files() []impl.File {
	var list []impl.File
	for name := int64(1); name <= 99; name++ {
		if f, ok := p[name]; ok {
			list = append(list, f)
		}
	}
	return list
}

func (p plainDir) words() []int64 {
	words := []int64{int64(len(p))}
	for _, f := range p.files() {
		words = slices.Concat(words, []int64{f.Name, f.Size}, f.Blocks)
	}
	return words
}

// blocks goes through all blocks there are, so that what it tells rises.
func (p plainDir) blocks() []int64 {
	var list []int64
	files := p.files()
	for at := int64(3); at <= 22; at++ {
		if slices.ContainsFunc(files, func(f impl.File) bool { return slices.Contains(f.Blocks, at) }) {
			list = append(list, at)
		}
	}
	return list
}

func (p plainDir) without(name int64) plainDir {
	left := plainDir{}
	for other, f := range p {
		if other != name {
			left[other] = f
		}
	}
	return left
}

func (p plainDir) with(f impl.File) plainDir {
	all := p.without(f.Name)
	all[f.Name] = f
	return all
}

// putCode is the code of a put of a file that by itself has no fault.
func (p plainDir) putCode(f impl.File) int64 {
	others := p.without(f.Name)
	if len(others) == 4 {
		return impl.ErrMany
	}
	for _, other := range others {
		if slices.ContainsFunc(other.Blocks, func(at int64) bool { return slices.Contains(f.Blocks, at) }) {
			return impl.ErrTaken
		}
	}
	return impl.OK
}

func plainNeeds(size int64) int64 {
	n := int64(0)
	for n*8 < size {
		n++
	}
	return n
}

// plainFile takes its blocks from the front of a list, as many as the size needs.
func plainFile(name int64, size int64, blocks []int64) impl.File {
	return fileOf(name, size, slices.Clone(blocks[:plainNeeds(size)])...)
}

func randomBlocks(rnd *rand.Rand) []int64 {
	blocks := run(3, 20)
	rnd.Shuffle(len(blocks), func(i, k int) { blocks[i], blocks[k] = blocks[k], blocks[i] })
	return blocks
}

func randomFile(rnd *rand.Rand, names int64) impl.File {
	return plainFile(1+rnd.Int63n(names), rnd.Int63n(41), randomBlocks(rnd))
}

// randomDir has n files of different names, whose blocks lie crosswise.
func randomDir(rnd *rand.Rand, n int, names int64) plainDir {
	blocks := randomBlocks(rnd)
	p := plainDir{}
	for len(p) < n {
		f := plainFile(1+rnd.Int63n(names), rnd.Int63n(41), blocks)
		if _, ok := p[f.Name]; !ok {
			p[f.Name] = f
			blocks = blocks[len(f.Blocks):]
		}
	}
	return p
}

// wantDirRead holds the words of a directory, what is read of them, and its blocks against the plain one.
func wantDirRead(t *testing.T, p plainDir) {
	t.Helper()
	list := p.files()
	if code := impl.FilesFault(list); code != impl.OK {
		t.Fatalf("%v: %d", list, code)
	}
	words := impl.PackDir(list)
	wantWords(t, "PackDir", words, p.words())
	wantFiles(t, "UnpackDir", impl.UnpackDir(words.List), list)
	wantWords(t, "BlocksIn", impl.BlocksIn(list), p.blocks())
}

// wantEachFile asks for each name there is, and beyond them, what is there.
func wantEachFile(t *testing.T, p plainDir) {
	t.Helper()
	list := p.files()
	for name := int64(-2); name <= 102; name++ {
		if f, ok := p[name]; ok {
			wantFiles(t, "FileAt", impl.FileAt(list, name), []impl.File{f})
			wantFiles(t, "DropFile", impl.DropFile(list, name), p.without(name).files())
		} else {
			wantFilesCode(t, "FileAt", impl.FileAt(list, name), impl.ErrNone)
			wantFilesCode(t, "DropFile", impl.DropFile(list, name), impl.ErrNone)
		}
	}
}

// wantPut holds PutFile against the plain directory: the file is there, and all others stay.
func wantPut(t *testing.T, p plainDir, f impl.File) plainDir {
	t.Helper()
	r := impl.PutFile(p.files(), f)
	if code := p.putCode(f); code != impl.OK {
		wantFilesCode(t, "PutFile", r, code)
		return p
	}
	wantFiles(t, "PutFile", r, p.with(f).files())
	wantFiles(t, "what was put", impl.FileAt(r.Files, f.Name), []impl.File{f})
	for name, other := range p.without(f.Name) {
		wantFiles(t, "what stays", impl.FileAt(r.Files, name), []impl.File{other})
	}
	return p.with(f)
}

// wantRenamed holds RenameFile against the plain directory: it has all that it had, and what had the new name is gone.
func wantRenamed(t *testing.T, p plainDir, name int64, to int64) plainDir {
	t.Helper()
	r := impl.RenameFile(p.files(), name, to)
	f, ok := p[name]
	if !ok {
		wantFilesCode(t, "RenameFile", r, impl.ErrNone)
		return p
	}
	f.Name = to
	then := p.without(name).with(f)
	wantFiles(t, "RenameFile", r, then.files())
	wantFiles(t, "what was renamed", impl.FileAt(r.Files, to), []impl.File{f})
	if name != to {
		wantFilesCode(t, "its old name", impl.FileAt(r.Files, name), impl.ErrNone)
	}
	return then
}

func TestFileBounds(t *testing.T) {
	if impl.MaxFiles != 4 || impl.FileBlocks != 5 || impl.BlockWords != 8 {
		t.Error("four files of at most five blocks of eight words")
	}
}

func TestDirWordsByHand(t *testing.T) {
	cases := []struct {
		name  string
		list  []impl.File
		words []int64
	}{
		{"no files", nil, []int64{0}},
		{"an empty list", []impl.File{}, []int64{0}},
		{"one of no words", []impl.File{fileOf(1, 0)}, []int64{1, 1, 0}},
		{"one of no words, its list empty", []impl.File{{Name: 99, Blocks: []int64{}}}, []int64{1, 99, 0}},
		{"one of one word", []impl.File{fileOf(7, 1, 22)}, []int64{1, 7, 1, 22}},
		{"one of a full block", []impl.File{fileOf(7, 8, 3)}, []int64{1, 7, 8, 3}},
		{"one of a word more", []impl.File{fileOf(7, 9, 4, 3)}, []int64{1, 7, 9, 4, 3}},
		{"one of all words", []impl.File{fileOf(7, 40, 9, 3, 22, 4, 8)}, []int64{1, 7, 40, 9, 3, 22, 4, 8}},
		{"two", []impl.File{fileOf(2, 9, 3, 4), fileOf(3, 1, 5)}, []int64{2, 2, 9, 3, 4, 3, 1, 5}},
		{"two of no words", []impl.File{fileOf(1, 0), fileOf(2, 0)}, []int64{2, 1, 0, 2, 0}},
		{"one of no words ahead", []impl.File{fileOf(1, 0), fileOf(2, 2, 3)}, []int64{2, 1, 0, 2, 2, 3}},
		{"one of no words behind", []impl.File{fileOf(1, 2, 3), fileOf(2, 0)}, []int64{2, 1, 2, 3, 2, 0}},
		{"three", []impl.File{fileOf(1, 8, 22), fileOf(50, 0), fileOf(99, 16, 4, 3)}, []int64{3, 1, 8, 22, 50, 0, 99, 16, 4, 3}},
		{"four of no words", []impl.File{fileOf(4, 0), fileOf(5, 0), fileOf(6, 0), fileOf(7, 0)}, []int64{4, 4, 0, 5, 0, 6, 0, 7, 0}},
		{"four of all blocks",
			[]impl.File{fileOf(1, 40, run(18, 5)...), fileOf(2, 39, run(13, 5)...), fileOf(3, 34, run(8, 5)...), fileOf(4, 33, run(3, 5)...)},
			slices.Concat([]int64{4, 1, 40}, run(18, 5), []int64{2, 39}, run(13, 5), []int64{3, 34}, run(8, 5), []int64{4, 33}, run(3, 5))},
	}
	for _, c := range cases {
		wantWords(t, c.name, impl.PackDir(c.list), c.words)
		wantFiles(t, c.name, impl.UnpackDir(c.words), c.list)
	}
	wantFiles(t, "no words", impl.UnpackDir(nil), nil)
	wantFiles(t, "empty words", impl.UnpackDir([]int64{}), nil)
}

func TestPutFileByHand(t *testing.T) {
	two := []impl.File{fileOf(10, 9, 3, 4), fileOf(20, 0)}
	four := []impl.File{fileOf(10, 9, 3, 4), fileOf(20, 0), fileOf(30, 1, 5), fileOf(40, 8, 6)}
	cases := []struct {
		name string
		list []impl.File
		f    impl.File
		want []impl.File
	}{
		{"the first one", nil, fileOf(2, 9, 3, 4), []impl.File{fileOf(2, 9, 3, 4)}},
		{"the first one, of no words", nil, fileOf(2, 0), []impl.File{fileOf(2, 0)}},
		{"ahead of the others", two, fileOf(9, 1, 22), []impl.File{fileOf(9, 1, 22), two[0], two[1]}},
		{"between the others", two, fileOf(11, 1, 22), []impl.File{two[0], fileOf(11, 1, 22), two[1]}},
		{"behind the others", two, fileOf(21, 1, 22), []impl.File{two[0], two[1], fileOf(21, 1, 22)}},
		{"of no words, ahead of the others", two, fileOf(1, 0), []impl.File{fileOf(1, 0), two[0], two[1]}},
		{"of no words, behind the others", two, fileOf(99, 0), []impl.File{two[0], two[1], fileOf(99, 0)}},
		{"in the first one's place", two, fileOf(10, 1, 5), []impl.File{fileOf(10, 1, 5), two[1]}},
		{"in the last one's place", two, fileOf(20, 1, 5), []impl.File{two[0], fileOf(20, 1, 5)}},
		{"as it is", two, fileOf(10, 9, 3, 4), two},
		{"of no words, as it is", two, fileOf(20, 0), two},
		{"of the same size, other blocks", two, fileOf(10, 9, 5, 6), []impl.File{fileOf(10, 9, 5, 6), two[1]}},
		{"its own blocks in another order", two, fileOf(10, 9, 4, 3), []impl.File{fileOf(10, 9, 4, 3), two[1]}},
		{"one of its own blocks and a new one", two, fileOf(10, 16, 7, 3), []impl.File{fileOf(10, 16, 7, 3), two[1]}},
		{"its own blocks and more", two, fileOf(10, 17, 3, 4, 5), []impl.File{fileOf(10, 17, 3, 4, 5), two[1]}},
		{"of no words where it had some", two, fileOf(10, 0), []impl.File{fileOf(10, 0), two[1]}},
		{"the fourth one", four[1:], fileOf(10, 9, 3, 4), four},
		{"of four, the first one's place", four, fileOf(10, 1, 3), []impl.File{fileOf(10, 1, 3), four[1], four[2], four[3]}},
		{"of four, the last one's place", four, fileOf(40, 1, 22), []impl.File{four[0], four[1], four[2], fileOf(40, 1, 22)}},
	}
	for _, c := range cases {
		wantFiles(t, c.name, impl.PutFile(c.list, c.f), c.want)
	}
}

func TestDropFileByHand(t *testing.T) {
	four := []impl.File{fileOf(10, 9, 3, 4), fileOf(20, 0), fileOf(30, 1, 5), fileOf(40, 8, 6)}
	for i, f := range four {
		wantFiles(t, "of four", impl.DropFile(four, f.Name), slices.Concat(four[:i], four[i+1:]))
		wantFiles(t, "alone", impl.DropFile([]impl.File{f}, f.Name), nil)
		wantFiles(t, "it alone", impl.FileAt(four, f.Name), []impl.File{f})
	}
}

// Files of one size: just that of the name is gone, or in another place.
func TestFilesOfOneSize(t *testing.T) {
	for _, four := range [][]impl.File{
		{fileOf(1, 0), fileOf(2, 0), fileOf(3, 0), fileOf(4, 0)},
		{fileOf(1, 8, 3), fileOf(2, 8, 4), fileOf(3, 8, 5), fileOf(4, 8, 6)},
		{fileOf(1, 1, 22), fileOf(2, 2, 21), fileOf(3, 3, 20), fileOf(4, 4, 19)},
	} {
		p := plainDirOf(four)
		wantEachFile(t, p)
		for name := int64(1); name <= 5; name++ {
			for to := int64(1); to <= 5; to++ {
				wantRenamed(t, p, name, to)
			}
		}
	}
}

func TestRenameFileByHand(t *testing.T) {
	three := []impl.File{fileOf(10, 9, 3, 4), fileOf(20, 0), fileOf(30, 1, 5)}
	cases := []struct {
		name string
		from int64
		to   int64
		want []impl.File
	}{
		{"the first one stays the first", 10, 1, []impl.File{fileOf(1, 9, 3, 4), three[1], three[2]}},
		{"the first one up to the next", 10, 19, []impl.File{fileOf(19, 9, 3, 4), three[1], three[2]}},
		{"the first one behind the second", 10, 21, []impl.File{three[1], fileOf(21, 9, 3, 4), three[2]}},
		{"the first one behind all", 10, 99, []impl.File{three[1], three[2], fileOf(99, 9, 3, 4)}},
		{"the last one ahead of all", 30, 1, []impl.File{fileOf(1, 1, 5), three[0], three[1]}},
		{"the last one between", 30, 15, []impl.File{three[0], fileOf(15, 1, 5), three[1]}},
		{"one of no words ahead of all", 20, 9, []impl.File{fileOf(9, 0), three[0], three[2]}},
		{"one of no words behind all", 20, 31, []impl.File{three[0], three[2], fileOf(31, 0)}},
		{"its own name, the first", 10, 10, three},
		{"its own name, of no words", 20, 20, three},
		{"its own name, the last", 30, 30, three},
		{"over the next one", 10, 20, []impl.File{fileOf(20, 9, 3, 4), three[2]}},
		{"over the last one", 10, 30, []impl.File{three[1], fileOf(30, 9, 3, 4)}},
		{"over the first one", 30, 10, []impl.File{fileOf(10, 1, 5), three[1]}},
		{"one of no words over one of some", 20, 10, []impl.File{fileOf(10, 0), three[2]}},
		{"one of some words over one of none", 30, 20, []impl.File{three[0], fileOf(20, 1, 5)}},
	}
	for _, c := range cases {
		wantFiles(t, c.name, impl.RenameFile(three, c.from, c.to), c.want)
	}
	wantFiles(t, "one alone", impl.RenameFile(three[:1], 10, 99), []impl.File{fileOf(99, 9, 3, 4)})
}

func TestBlocksInByHand(t *testing.T) {
	cases := []struct {
		name string
		list []impl.File
		want []int64
	}{
		{"no files", nil, nil},
		{"of no words", []impl.File{fileOf(1, 0), fileOf(2, 0)}, nil},
		{"one", []impl.File{fileOf(1, 1, 22)}, []int64{22}},
		{"one whose blocks fall", []impl.File{fileOf(1, 40, 22, 9, 5, 4, 3)}, []int64{3, 4, 5, 9, 22}},
		{"two side by side", []impl.File{fileOf(1, 9, 3, 4), fileOf(2, 9, 5, 6)}, []int64{3, 4, 5, 6}},
		{"two that fall", []impl.File{fileOf(1, 9, 5, 6), fileOf(2, 9, 3, 4)}, []int64{3, 4, 5, 6}},
		{"crosswise", []impl.File{fileOf(1, 9, 3, 5), fileOf(2, 0), fileOf(3, 9, 6, 4)}, []int64{3, 4, 5, 6}},
		{"three crosswise", []impl.File{fileOf(1, 9, 9, 3), fileOf(2, 17, 4, 22, 7), fileOf(3, 1, 8)}, []int64{3, 4, 7, 8, 9, 22}},
		{"all 20", []impl.File{fileOf(1, 40, 22, 18, 14, 10, 6), fileOf(2, 40, 21, 17, 13, 9, 5), fileOf(3, 40, 20, 16, 12, 8, 4), fileOf(4, 40, 19, 15, 11, 7, 3)}, run(3, 20)},
	}
	for _, c := range cases {
		wantWords(t, c.name, impl.BlocksIn(c.list), c.want)
	}
}

// Each size with as many blocks as it needs, in each place of a directory.
func TestEachSizeIsReadBack(t *testing.T) {
	for size := int64(0); size <= 40; size++ {
		for place := range 4 {
			p := plainDir{}
			for i := range 4 {
				p[int64(i+1)] = fileOf(int64(i+1), 3, int64(22-i))
			}
			p[int64(place+1)] = plainFile(int64(place+1), size, run(3, 5))
			wantDirRead(t, p)
		}
	}
}

// Directories of none up to four files: their words, each name, a put and a rename of each kind.
func TestManyDirectories(t *testing.T) {
	rnd := rand.New(rand.NewSource(51))
	for range 400 {
		for n := range 5 {
			p := randomDir(rnd, n, []int64{6, 99}[rnd.Intn(2)])
			wantDirRead(t, p)
			wantEachFile(t, p)
			for range 10 {
				wantDirRead(t, wantPut(t, p, randomFile(rnd, 6)))
				wantDirRead(t, wantRenamed(t, p, 1+rnd.Int63n(6), 1+rnd.Int63n(99)))
			}
			for _, f := range p.files() {
				for _, other := range p.files() {
					wantRenamed(t, p, f.Name, other.Name)
				}
			}
		}
	}
}

// Long runs of puts, drops and renames, each one above what came of the last, read from its words anew.
func TestManyChangesOfADirectory(t *testing.T) {
	rnd := rand.New(rand.NewSource(52))
	for range 100 {
		p := plainDir{}
		for range 100 {
			switch rnd.Intn(4) {
			case 0, 1:
				f, used := randomFile(rnd, 7), p.blocks()
				if left := slices.DeleteFunc(randomBlocks(rnd), func(at int64) bool { return slices.Contains(used, at) }); len(left) >= 5 {
					f = plainFile(f.Name, f.Size, left)
				}
				p = wantPut(t, p, f)
			case 2:
				p = wantRenamed(t, p, 1+rnd.Int63n(7), 1+rnd.Int63n(7))
			default:
				name := 1 + rnd.Int63n(7)
				if r := impl.DropFile(p.files(), name); r.Code == impl.OK {
					p = p.without(name)
					wantFiles(t, "DropFile", r, p.files())
				}
			}
			wantDirRead(t, p)
		}
	}
}

// plainDirIn reads words by their count, file by file; what it reads may have a fault.
func plainDirIn(words []int64) ([]impl.File, bool) {
	var list []impl.File
	count, words := words[0], words[1:]
	for range count {
		if len(words) < 2 || int64(len(words)-2) < plainNeeds(words[1]) {
			return nil, false
		}
		list = append(list, plainFile(words[0], words[1], words[2:]))
		words = words[2+plainNeeds(words[1]):]
	}
	return list, len(words) == 0
}

// wantReadOrText holds UnpackDir against a plain reader: what it reads is a directory of just these words, or it is none.
func wantReadOrText(t *testing.T, words []int64) bool {
	t.Helper()
	list, ok := plainDirIn(words)
	r := impl.UnpackDir(words)
	if !ok || plainFilesFault(list) != impl.OK {
		wantFilesCode(t, "of no directory", r, impl.ErrText)
		return false
	}
	wantFiles(t, "of a directory", r, list)
	wantWords(t, "packed again", impl.PackDir(r.Files), words)
	return true
}

// All words up to eight of them, of numbers that may be a count, a name, a size or a block.
func TestAllShortWordsAreADirectoryOrNone(t *testing.T) {
	numbers := []int64{0, 1, 2, 3, 9}
	read := 0
	var try func(words []int64)
	try = func(words []int64) {
		if len(words) > 0 && wantReadOrText(t, words) {
			read++
		}
		if len(words) < 8 {
			for _, n := range numbers {
				try(append(words[:len(words):len(words)], n))
			}
		}
	}
	try(nil)
	if read < 50 {
		t.Errorf("just %d directories", read)
	}
}

// Words of a directory of which one is another, is left out or stands twice, and those that are cut off anywhere.
func TestSpoiltWordsAreADirectoryOrNone(t *testing.T) {
	rnd := rand.New(rand.NewSource(53))
	for range 300 {
		words := randomDir(rnd, rnd.Intn(5), 99).words()
		for i := range words {
			for _, n := range []int64{0, 1, 2, 3, 4, 5, 8, 9, 22, 23, 40, 41, 99, 100, 65535, rnd.Int63n(50)} {
				spoilt := slices.Clone(words)
				spoilt[i] = n
				wantReadOrText(t, spoilt)
				wantReadOrText(t, slices.Insert(slices.Clone(words), i, n))
				wantReadOrText(t, append(slices.Clone(words), n))
			}
			wantReadOrText(t, words[:i+1])
			if i > 0 {
				wantFilesCode(t, "cut off", impl.UnpackDir(words[:i]), impl.ErrText)
			}
			if len(words) > 1 {
				wantReadOrText(t, slices.Delete(slices.Clone(words), i, i+1))
			}
		}
	}
}
