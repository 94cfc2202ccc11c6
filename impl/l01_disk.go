package impl

const OK = 0
const ErrForm = 1
const ErrMany = 2
const ErrRange = 3
const ErrNone = 4
const ErrText = 5
const ErrOld = 6
const ErrTaken = 7
const ErrFull = 8
const ErrWait = 9
const ErrState = 10
const MaxWords = 64
const MaxDisk = 70
const KeepNone = 0
const KeepAll = 1
const KeepFirst = 2
const KeepSecond = 3

const maxWord = 65535
const maxCache = 200
const maxPicks = 200
const halfWords = MaxWords / 2

type Put struct {
	At    int64
	Words []int64
}
type Disk struct {
	Blocks [][]int64
	Cache  []Put
}
type DiskResult struct {
	Code int64
	Disk Disk
}
type IntResult struct {
	Code  int64
	Value int64
}
type IntsResult struct {
	Code int64
	List []int64
}
type TextResult struct {
	Code int64
	Text string
}
type PutsResult struct {
	Code int64
	Puts []Put
}

// A cell of a half is a word (its real part) and the word's place in the
// block, counted from 1 (its imaginary part). So a cell without a word is 0,
// and each half tells by itself where its words stand, whatever half it is
// put beside.
type half [halfWords]complex128
type cells [2]half

func DiskFault(d Disk) int64 {
	if len(d.Blocks) > MaxDisk || len(d.Cache) > maxCache {
		return ErrMany
	}
	for _, words := range d.Blocks {
		if code := wordsFault(words); code != OK {
			return code
		}
	}
	for _, p := range d.Cache {
		if !isPlace(d, p.At) {
			return ErrRange
		}
		if code := wordsFault(p.Words); code != OK {
			return code
		}
	}
	return OK
}

func NewDisk(size int64) DiskResult {
	if size < 0 || size > MaxDisk {
		return DiskResult{Code: ErrRange}
	}
	return DiskResult{Disk: Disk{Blocks: make([][]int64, size)}}
}

func PutBlock(d Disk, at int64, words []int64) DiskResult {
	if code := placeFault(d, at); code != OK {
		return DiskResult{Code: code}
	}
	if code := wordsFault(words); code != OK {
		return DiskResult{Code: code}
	}
	if len(d.Cache) >= maxCache {
		return DiskResult{Code: ErrMany}
	}
	next := copyDisk(d)
	next.Cache = append(next.Cache, Put{At: at, Words: copyWords(words)})
	return DiskResult{Disk: next}
}

func BlockAt(d Disk, at int64) IntsResult {
	if code := placeFault(d, at); code != OK {
		return IntsResult{Code: code}
	}
	return IntsResult{List: wordsAt(d, at)}
}

func FlushDisk(d Disk) DiskResult {
	if code := DiskFault(d); code != OK {
		return DiskResult{Code: code}
	}
	blocks := copyBlocks(d.Blocks)
	for _, p := range d.Cache {
		blocks[p.At] = copyWords(p.Words)
	}
	return DiskResult{Disk: Disk{Blocks: blocks}}
}

func CrashDisk(d Disk, picks []int64) DiskResult {
	if code := DiskFault(d); code != OK {
		return DiskResult{Code: code}
	}
	if code := picksFault(picks); code != OK {
		return DiskResult{Code: code}
	}
	blocks := copyBlocks(d.Blocks)
	for i, p := range d.Cache {
		blocks[p.At] = tornWords(blocks[p.At], p.Words, pickAt(picks, i))
	}
	return DiskResult{Disk: Disk{Blocks: blocks}}
}

func TearWords(old []int64, next []int64, pick int64) IntsResult {
	if code := wordsFault(old); code != OK {
		return IntsResult{Code: code}
	}
	if code := wordsFault(next); code != OK {
		return IntsResult{Code: code}
	}
	if !isPick(pick) {
		return IntsResult{Code: ErrRange}
	}
	return IntsResult{List: tornWords(old, next, pick)}
}

func wordsFault(words []int64) int64 {
	if len(words) > MaxWords {
		return ErrMany
	}
	for _, word := range words {
		if word < 0 || word > maxWord {
			return ErrRange
		}
	}
	return OK
}

func placeFault(d Disk, at int64) int64 {
	if code := DiskFault(d); code != OK {
		return code
	}
	if !isPlace(d, at) {
		return ErrRange
	}
	return OK
}

func picksFault(picks []int64) int64 {
	if len(picks) > maxPicks {
		return ErrMany
	}
	for _, pick := range picks {
		if !isPick(pick) {
			return ErrRange
		}
	}
	return OK
}

func isPlace(d Disk, at int64) bool {
	return at >= 0 && at < int64(len(d.Blocks))
}

// wordsAt takes a place of a disk that has no fault, so that whoever reads many
// blocks asks for faults once.
func wordsAt(d Disk, at int64) []int64 {
	for i := len(d.Cache) - 1; i >= 0; i-- {
		if d.Cache[i].At == at {
			return copyWords(d.Cache[i].Words)
		}
	}
	return copyWords(d.Blocks[at])
}

func isPick(pick int64) bool {
	return pick >= KeepNone && pick <= KeepSecond
}

func pickAt(picks []int64, i int) int64 {
	if i < len(picks) {
		return picks[i]
	}
	return KeepNone
}

// tornWords takes words and a pick that have no fault.
func tornWords(old []int64, next []int64, pick int64) []int64 {
	was, will := cellsOf(old), cellsOf(next)
	switch pick {
	case KeepAll:
		was = will
	case KeepFirst:
		was[0] = will[0]
	case KeepSecond:
		was[1] = will[1]
	}
	return wordsIn(was)
}

func cellsOf(words []int64) cells {
	var c cells
	for i, word := range words {
		c[i/halfWords][i%halfWords] = complex(float64(word), float64(i+1))
	}
	return c
}

func wordsIn(c cells) []int64 {
	var words []int64
	for _, h := range c {
		for _, cell := range h {
			words = putCell(words, cell)
		}
	}
	return words
}

// putCell fills up with words 0, since a first half that is shorter may stand
// ahead of a second one.
func putCell(words []int64, cell complex128) []int64 {
	if cell == 0 {
		return words
	}
	place := int(imag(cell))
	for len(words) < place-1 {
		words = append(words, 0)
	}
	return append(words, int64(real(cell)))
}

func copyWords(words []int64) []int64 {
	return append([]int64(nil), words...)
}

func copyDisk(d Disk) Disk {
	return Disk{Blocks: copyBlocks(d.Blocks), Cache: copyPuts(d.Cache)}
}

func copyBlocks(blocks [][]int64) [][]int64 {
	var list [][]int64
	for _, words := range blocks {
		list = append(list, copyWords(words))
	}
	return list
}

func copyPuts(puts []Put) []Put {
	var list []Put
	for _, p := range puts {
		list = append(list, Put{At: p.At, Words: copyWords(p.Words)})
	}
	return list
}
