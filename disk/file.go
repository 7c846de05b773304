package disk

import "slices"

// file is a file. Of the records that are synced it is enough to know how many they are: no crash takes them apart any more.
type file struct {
	contents []byte // the records, and the torn end
	synced   int
	unsynced []int // where in the contents each of the records begins that are not synced
	cut      bool
}

func (f *file) add(record string) {
	f.unsynced = append(f.unsynced, len(f.contents))
	f.contents = append(f.contents, record...)
}

func (f *file) sync() {
	f.synced += len(f.unsynced)
	f.unsynced = nil
}

// crash leaves the first keep of the records that are not synced, and torn bytes of the one behind them.
func (f *file) crash(keep, torn int) {
	keep = max(keep, 0)
	if keep < len(f.unsynced) {
		from, to := f.bounds(keep)
		end := from + modulo(torn, to-from)
		// A copy, lest the bytes that are lost be kept behind its end.
		f.contents = slices.Clone(f.contents[:end])
		f.unsynced = f.unsynced[:keep]
		f.cut = true
	}
	f.sync()
}

// bounds returns where the k-th of the records that are not synced begins and where it ends.
func (f *file) bounds(k int) (from, to int) {
	if k+1 < len(f.unsynced) {
		return f.unsynced[k], f.unsynced[k+1]
	}
	return f.unsynced[k], len(f.contents)
}

// modulo returns n modulo m, which is never negative; the language's remainder is, for an n below 0.
func modulo(n, m int) int {
	rest := n % m
	if rest < 0 {
		rest += m
	}
	return rest
}

func (f *file) twin() *file {
	return &file{
		contents: slices.Clone(f.contents),
		synced:   f.synced,
		unsynced: slices.Clone(f.unsynced),
		cut:      f.cut,
	}
}
