package tests

import (
	"math"
	"testing"

	"loop.example/g00311/impl"
)

// Promise 1: the functions of files change no argument, their answers are new memory and hang on the arguments alone.

type fileArgs struct {
	Files []impl.File
	File  impl.File
	Words []int64
	Name  int64
	To    int64
}

func fileArgsList() []fileArgs {
	dirs := [][]impl.File{
		nil,
		{fileOf(5, 0)},
		{fileOf(5, 9, 4, 3)},
		{fileOf(1, 0), fileOf(5, 40, 9, 3, 22, 4, 8), fileOf(99, 1, 10)},
		{fileOf(1, 9, 22, 3), fileOf(2, 0), fileOf(5, 17, 10, 4, 9), fileOf(7, 8, 11)},
		{fileOf(1, 0), fileOf(2, 0), fileOf(3, 0), fileOf(4, 0), fileOf(5, 0)},
		{fileOf(5, 1, 3), fileOf(5, 1, 4)},
		{fileOf(5, 9, 3, 3)},
		{fileOf(math.MinInt64, math.MaxInt64, math.MinInt64, math.MaxInt64)},
	}
	files := []impl.File{{}, fileOf(5, 0), fileOf(5, 9, 12, 13), fileOf(6, 40, 18, 17, 16, 15, 14), fileOf(6, 1, 3), fileOf(7, 9, 21, 20)}
	words := [][]int64{nil, {0}, {1, 5, 0}, {2, 5, 9, 4, 3, 6, 1, 22}, {1, 5, 9, 3, 3}, {1, 5, 9, 3}, same(0, 65), {math.MinInt64, math.MaxInt64}}
	var list []fileArgs
	for i, dir := range dirs {
		for k, f := range files {
			for _, name := range []int64{math.MinInt64, 0, 5, 7} {
				for _, to := range []int64{1, 5, 50, 100, math.MaxInt64} {
					list = append(list, fileArgs{dir, f, words[(i+k)%len(words)], name, to})
				}
			}
		}
	}
	return list
}

func fileCalls() []namedCall[fileArgs] {
	return []namedCall[fileArgs]{
		{"FilesFault", func(a fileArgs) any { return impl.FilesFault(a.Files) }},
		{"PackDir", func(a fileArgs) any { return impl.PackDir(a.Files) }},
		{"UnpackDir", func(a fileArgs) any { return impl.UnpackDir(a.Words) }},
		{"FileAt", func(a fileArgs) any { return impl.FileAt(a.Files, a.Name) }},
		{"PutFile", func(a fileArgs) any { return impl.PutFile(a.Files, a.File) }},
		{"DropFile", func(a fileArgs) any { return impl.DropFile(a.Files, a.Name) }},
		{"RenameFile", func(a fileArgs) any { return impl.RenameFile(a.Files, a.Name, a.To) }},
		{"BlocksIn", func(a fileArgs) any { return impl.BlocksIn(a.Files) }},
	}
}

func TestFileCallsKeepToTheirArguments(t *testing.T) {
	wantCallsApart(t, fileCalls(), fileArgsList())
}

// Where nothing changes the answer is new memory all the same, the blocks of each file too.
func TestFilesThatStayAreNewMemory(t *testing.T) {
	list := append(make([]impl.File, 0, 10), fileOf(1, 9, 22, 3), fileOf(2, 0), fileOf(5, 17, 10, 4, 9))
	same := impl.RenameFile(list, 5, 5)
	wantFiles(t, "its own name", same, list)
	wantNewMemory(t, "its own name", same, list)
	put := impl.PutFile(list, list[0])
	wantFiles(t, "put as it is", put, list)
	wantNewMemory(t, "put as it is", put, list)
	one := impl.FileAt(list, 5)
	wantFiles(t, "it alone", one, list[2:])
	wantNewMemory(t, "it alone", one, list)
	blocks := impl.BlocksIn(list[:1])
	wantWords(t, "blocks of one", blocks, []int64{3, 22})
	wantNewMemory(t, "blocks of one", blocks, list)
	wantFiles(t, "all as it was", impl.FilesResult{Files: list}, []impl.File{fileOf(1, 9, 22, 3), fileOf(2, 0), fileOf(5, 17, 10, 4, 9)})
}

// What is put and what is read may be written to: neither the file nor the words hang on it any more.
func TestFilesAreApartFromWhatWasGiven(t *testing.T) {
	blocks := append(make([]int64, 0, 9), 3, 4)
	r := impl.PutFile(nil, fileOf(7, 9, blocks...))
	words := append(make([]int64, 0, 99), 2, 7, 9, 3, 4, 8, 1, 5)
	read := impl.UnpackDir(words)
	for i := range blocks {
		blocks[i] = -77
	}
	for i := range words {
		words[i] = -77
	}
	wantFiles(t, "what was put", r, []impl.File{fileOf(7, 9, 3, 4)})
	wantFiles(t, "what was read", read, []impl.File{fileOf(7, 9, 3, 4), fileOf(8, 1, 5)})
	read.Files[0].Blocks = append(read.Files[0].Blocks, 6)
	wantFiles(t, "one that is longer", impl.FilesResult{Files: read.Files[1:]}, []impl.File{fileOf(8, 1, 5)})
}
