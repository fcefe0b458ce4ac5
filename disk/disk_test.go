package disk_test

import (
	"bytes"
	"math"
	"slices"
	"testing"

	"spindle/api"
	"spindle/disk"
)

// full is a sector of one byte.
func full(c byte) []byte { return bytes.Repeat([]byte{c}, api.Sector) }

// letters are sectors, one behind the other, each of which consists of its letter; a dot is one of zeros.
func letters(text string) []byte {
	b := []byte{}
	for _, c := range []byte(text) {
		if c == '.' {
			c = 0
		}
		b = append(b, full(c)...)
	}
	return b
}

// draw is a source of numbers without a pattern, the same ones at every run.
type draw uint64

func (d *draw) below(n int) int {
	*d = *d*6364136223846793005 + 1442695040888963407
	return int(uint64(*d) >> 33 % uint64(n))
}

func (d *draw) bytes(n int) []byte {
	b := make([]byte, n)
	for i := range b {
		b[i] = byte(d.below(256))
	}
	return b
}

func (d *draw) bools(n int) []bool {
	b := make([]bool, n)
	for i := range b {
		b[i] = d.below(2) == 1
	}
	return b
}

// scribble writes all over b and behind it.
func scribble(b []byte) {
	b = b[:cap(b)]
	for i := range b {
		b[i] = ^b[i]
	}
}

func fresh(t *testing.T, sectors int) *disk.Disk {
	t.Helper()
	d, e := disk.New(sectors)
	if d == nil || e != api.OK {
		t.Fatalf("New(%d): %v, %v", sectors, d, e)
	}
	return d
}

func loaded(t *testing.T, image []byte) *disk.Disk {
	t.Helper()
	d, e := disk.Load(image)
	if d == nil || e != api.OK {
		t.Fatalf("Load of %d bytes: %v, %v", len(image), d, e)
	}
	return d
}

func write(t *testing.T, d *disk.Disk, at int, b []byte) {
	t.Helper()
	if e := d.Write(at, b); e != api.OK {
		t.Fatalf("Write(%d): %v", at, e)
	}
}

// writes writes letters: of each pair the sector, and what it becomes.
func writes(t *testing.T, d *disk.Disk, pairs string) {
	t.Helper()
	for i := 0; i < len(pairs); i += 2 {
		write(t, d, int(pairs[i]-'0'), letters(pairs[i+1:i+2]))
	}
}

func flush(t *testing.T, d *disk.Disk) {
	t.Helper()
	if e := d.Flush(); e != api.OK {
		t.Fatalf("Flush: %v", e)
	}
}

// readAll is all sectors, as they are read.
func readAll(t *testing.T, d *disk.Disk) []byte {
	t.Helper()
	all := []byte{}
	for at := range d.Sectors() {
		b, e := d.Read(at)
		if e != api.OK || len(b) != api.Sector {
			t.Fatalf("Read(%d): %d bytes, %v", at, len(b), e)
		}
		all = append(all, b...)
	}
	return all
}

// want asks a disk that has not failed everything, twice, as asking changes nothing.
func want(t *testing.T, what string, d *disk.Disk, reads, image []byte, pending ...int) {
	t.Helper()
	for range 2 {
		if d.Sectors() != len(reads)/api.Sector || d.Failed() {
			t.Errorf("%s: %d sectors, failed %v; want %d", what, d.Sectors(), d.Failed(), len(reads)/api.Sector)
		}
		if got := readAll(t, d); !bytes.Equal(got, reads) {
			t.Errorf("%s: reads %q; want %q", what, brief(got), brief(reads))
		}
		if got := d.Image(); !bytes.Equal(got, image) {
			t.Errorf("%s: image %q; want %q", what, brief(got), brief(image))
		}
		if got := d.Pending(); !slices.Equal(got, pending) {
			t.Errorf("%s: pending %v; want %v", what, got, pending)
		}
	}
}

// brief is a byte of each sector.
func brief(b []byte) []byte {
	short := []byte{}
	for i := 0; i < len(b); i += api.Sector {
		short = append(short, b[i])
	}
	return short
}

// wantLetters is want, of letters.
func wantLetters(t *testing.T, what string, d *disk.Disk, reads, image string, pending ...int) {
	t.Helper()
	want(t, what, d, letters(reads), letters(image), pending...)
}

// wantRefused is about a read that is refused: there are no bytes beside the error.
func wantRefused(t *testing.T, d *disk.Disk, at int, want api.Errno) {
	t.Helper()
	if b, e := d.Read(at); len(b) != 0 || e != want {
		t.Errorf("Read(%d): %d bytes, %v; want %v", at, len(b), e, want)
	}
}

func wantWrite(t *testing.T, d *disk.Disk, at, size int, want api.Errno) {
	t.Helper()
	if e := d.Write(at, bytes.Repeat([]byte{'!'}, size)); e != want {
		t.Errorf("Write(%d) of %d bytes: %v; want %v", at, size, e, want)
	}
}

// wantFailed asks a failed disk of so many sectors everything.
func wantFailed(t *testing.T, what string, d *disk.Disk, sectors int) {
	t.Helper()
	if !d.Failed() || d.Sectors() != sectors {
		t.Errorf("%s: failed %v, %d sectors; want %d", what, d.Failed(), d.Sectors(), sectors)
	}
	if image, pending := d.Image(), d.Pending(); len(image) != 0 || len(pending) != 0 {
		t.Errorf("%s: image of %d bytes, pending %v", what, len(image), pending)
	}
	for _, at := range []int{-1, 0, sectors - 1, sectors, math.MinInt, math.MaxInt} {
		wantRefused(t, d, at, api.ErrFailed)
		for _, size := range []int{0, 127, 128, 129} {
			wantWrite(t, d, at, size, api.ErrFailed)
		}
	}
	if e := d.Flush(); e != api.ErrFailed {
		t.Errorf("%s: Flush: %v", what, e)
	}
}

func TestNew(t *testing.T) {
	for _, sectors := range []int{1, 2, 128, 8191, 8192} {
		d := fresh(t, sectors)
		want(t, "new", d, make([]byte, sectors*128), make([]byte, sectors*128))
		wantRefused(t, d, sectors, api.ErrRange)
	}
	for _, sectors := range []int{0, -1, -128, 8193, math.MinInt, math.MaxInt} {
		if d, e := disk.New(sectors); d != nil || e != api.ErrDiskSize {
			t.Errorf("New(%d): %v, %v", sectors, d, e)
		}
	}
}

func TestLoad(t *testing.T) {
	source := draw(1)
	for _, sectors := range []int{1, 2, 3, 8191, 8192} {
		image := source.bytes(sectors * 128)
		want(t, "loaded", loaded(t, image), image, image)
	}
	for _, size := range []int{0, 1, 127, 129, 255, 257, 8192*128 - 1, 8192*128 + 1, 8192*128 + 127, 8193 * 128, 3 * 8192 * 128} {
		if d, e := disk.Load(make([]byte, size)); d != nil || e != api.ErrDiskSize {
			t.Errorf("Load of %d bytes: %v, %v", size, d, e)
		}
	}
	if d, e := disk.Load(nil); d != nil || e != api.ErrDiskSize {
		t.Errorf("Load of nil: %v, %v", d, e)
	}
}

// A loaded disk is a disk like any other.
func TestLoadedIsWritten(t *testing.T) {
	d := loaded(t, letters("abc"))
	writes(t, d, "1x2y")
	wantLetters(t, "written", d, "axy", "abc", 1, 2)
	d.Crash(false, true)
	wantLetters(t, "crashed", d, "aby", "aby")
	writes(t, d, "0z")
	flush(t, d)
	wantLetters(t, "flushed", d, "zby", "zby")
	want(t, "its image", loaded(t, d.Image()), letters("zby"), letters("zby"))
}

func TestReadBehindWrite(t *testing.T) {
	d := fresh(t, 3)
	writes(t, d, "1a")
	wantLetters(t, "one", d, ".a.", "...", 1)
	writes(t, d, "1b")
	wantLetters(t, "the same sector", d, ".b.", "...", 1, 1)
	writes(t, d, "2c0d1e")
	wantLetters(t, "others", d, "dec", "...", 1, 1, 2, 0, 1)
	writes(t, d, "1.")
	wantLetters(t, "zeros", d, "d.c", "...", 1, 1, 2, 0, 1, 1)
}

// Each byte of a sector is kept, in its place.
func TestWholeSectors(t *testing.T) {
	source := draw(2)
	d := fresh(t, 5)
	all := source.bytes(5 * 128)
	for at := range 5 {
		write(t, d, at, all[at*128:(at+1)*128])
	}
	want(t, "written", d, all, make([]byte, 5*128), 0, 1, 2, 3, 4)
	flush(t, d)
	want(t, "flushed", d, all, all)
	all[3*128+127]++
	write(t, d, 3, all[3*128:4*128])
	d.Crash(true)
	want(t, "crashed", d, all, all)
}

func TestSectorsThatAreNot(t *testing.T) {
	for _, sectors := range []int{1, 2, 7, 8192} {
		d := fresh(t, sectors)
		write(t, d, sectors-1, full('a'))
		for _, at := range []int{-1, -2, -sectors, sectors, sectors + 1, 8192, 8193, math.MinInt, math.MaxInt} {
			if at < 0 || at >= sectors {
				wantRefused(t, d, at, api.ErrRange)
				wantWrite(t, d, at, 128, api.ErrRange)
			}
		}
		reads := make([]byte, (sectors-1)*128, sectors*128)
		want(t, "only the last one", d, append(reads, full('a')...), make([]byte, sectors*128), sectors-1)
	}
}

func TestWriteOfAnotherLength(t *testing.T) {
	d := loaded(t, letters("ab"))
	writes(t, d, "1c")
	for _, size := range []int{0, 1, 64, 127, 129, 255, 256, 100000} {
		wantWrite(t, d, 0, size, api.ErrLength)
		wantWrite(t, d, 1, size, api.ErrLength)
	}
	if e := d.Write(0, nil); e != api.ErrLength {
		t.Errorf("Write of nil: %v", e)
	}
	wantLetters(t, "refused", d, "ac", "ab", 1)
}

func TestOrderOfErrors(t *testing.T) {
	d := loaded(t, letters("ab"))
	for _, at := range []int{-1, 2, math.MinInt, math.MaxInt} {
		for _, size := range []int{0, 127, 129} {
			wantWrite(t, d, at, size, api.ErrRange) // ahead of ErrLength
		}
	}
	wantLetters(t, "refused", d, "ab", "ab")
	d.Fail()
	wantFailed(t, "ErrFailed ahead of the others", d, 2)
}

func TestFlush(t *testing.T) {
	d := fresh(t, 3)
	flush(t, d)
	wantLetters(t, "nothing", d, "...", "...")
	writes(t, d, "2a0b2c")
	flush(t, d)
	wantLetters(t, "the last one of each", d, "b.c", "b.c")
	flush(t, d)
	wantLetters(t, "again", d, "b.c", "b.c")
	writes(t, d, "2d")
	wantLetters(t, "one more", d, "b.d", "b.c", 2)
	flush(t, d)
	wantLetters(t, "one more", d, "b.d", "b.d")
}

func TestFlushedIsNotLost(t *testing.T) {
	for _, keep := range [][]bool{nil, {false}, {true}, {false, false, true}, {true, true, true, true, true}} {
		d := fresh(t, 2)
		writes(t, d, "0a1b0c")
		flush(t, d)
		d.Crash(keep...)
		wantLetters(t, "behind a flush", d, "cb", "cb")
		writes(t, d, "0d")
		d.Crash()
		wantLetters(t, "one more that is lost", d, "cb", "cb")
	}
}

func TestCrash(t *testing.T) {
	const lost, kept = false, true
	for _, c := range []struct {
		writes string
		keep   []bool
		after  string
	}{
		{"", nil, "xyz"},
		{"", []bool{kept, kept}, "xyz"},
		{"0a1b", nil, "xyz"},
		{"0a1b", []bool{}, "xyz"},
		{"0a1b", []bool{kept}, "ayz"}, // fewer than writes
		{"0a1b", []bool{lost}, "xyz"},
		{"0a1b", []bool{lost, kept}, "xbz"}, // as many
		{"0a1b", []bool{kept, kept}, "abz"},
		{"0a1b", []bool{lost, lost, kept}, "xyz"}, // more
		{"0a1b", []bool{kept, lost, kept, kept}, "ayz"},
		{"2a0b2c", []bool{kept, lost, lost}, "xya"}, // the older one outlives the newer one
		{"2a0b2c", []bool{lost, lost, kept}, "xyc"},
		{"2a0b2c", []bool{kept, lost, kept}, "xyc"},
		{"2a0b2c", []bool{kept, kept}, "bya"},
		{"0a0b0c0d", []bool{lost, kept, kept, lost}, "cyz"},
		{"0a0b0c0d", []bool{kept, kept, lost}, "byz"},
		{"0a0b0a", []bool{kept, kept, lost}, "byz"},
		{"1.", []bool{kept}, "x.z"},
	} {
		d := loaded(t, letters("xyz"))
		writes(t, d, c.writes)
		d.Crash(c.keep...)
		wantLetters(t, c.writes, d, c.after, c.after)
		d.Crash(kept, kept, kept, kept)
		wantLetters(t, c.writes+", once more", d, c.after, c.after)
		flush(t, d)
		wantLetters(t, c.writes+", and a flush", d, c.after, c.after)
	}
}

// expected are the letters behind a crash: of each sector the last write that is kept.
func expected(before, pairs string, keep []bool) string {
	after := []byte(before)
	for i := range len(pairs) / 2 {
		if i < len(keep) && keep[i] {
			after[pairs[2*i]-'0'] = pairs[2*i+1]
		}
	}
	return string(after)
}

// Up to five writes of two sectors, and each choice of up to six of them.
func TestEveryCrash(t *testing.T) {
	for count := range 6 {
		for sectors := range 1 << count {
			pairs := ""
			for i := range count {
				pairs += string(rune('0'+sectors>>i&1)) + string(rune('a'+i))
			}
			for size := range count + 2 {
				for choice := range 1 << size {
					keep := []bool{}
					for i := range size {
						keep = append(keep, choice>>i&1 == 1)
					}
					d := loaded(t, letters("xy"))
					writes(t, d, pairs)
					d.Crash(keep...)
					after := letters(expected("xy", pairs, keep))
					if len(d.Pending()) != 0 || !bytes.Equal(readAll(t, d), after) || !bytes.Equal(d.Image(), after) {
						t.Fatalf("%s, kept %v: reads %q, image %q, pending %v", pairs, keep, brief(readAll(t, d)), brief(d.Image()), d.Pending())
					}
				}
			}
		}
	}
}

// A crash that keeps all is a flush, to reads and to what lasts.
func TestCrashThatKeepsAll(t *testing.T) {
	source := draw(3)
	for count := range 12 {
		crashed, flushed := fresh(t, 4), fresh(t, 4)
		keep := []bool{}
		for range count {
			at, b := source.below(4), source.bytes(128)
			write(t, crashed, at, b)
			write(t, flushed, at, b)
			keep = append(keep, true)
		}
		before := readAll(t, crashed)
		crashed.Crash(keep...)
		flush(t, flushed)
		want(t, "crashed", crashed, before, before)
		want(t, "flushed", flushed, before, before)
	}
}

// The indexes begin anew behind whatever empties the cache.
func TestCrashCountsFromTheLastOne(t *testing.T) {
	for _, ends := range []func(d *disk.Disk){
		func(d *disk.Disk) { d.Flush() },
		func(d *disk.Disk) { d.Crash(true, true) },
	} {
		d := fresh(t, 3)
		writes(t, d, "0a1b")
		ends(d)
		writes(t, d, "0c1d2e")
		wantLetters(t, "written", d, "cde", "ab.", 0, 1, 2)
		d.Crash(false, true)
		wantLetters(t, "the second one is kept", d, "ad.", "ad.")
	}
}

func TestFailed(t *testing.T) {
	for _, pairs := range []string{"", "0b", "0b1c0d"} {
		d := loaded(t, letters("ax"))
		writes(t, d, pairs)
		for _, act := range []func(){
			d.Fail,
			d.Fail, // once more
			func() { d.Crash() },
			func() { d.Crash(true, true, true) },
			func() { d.Flush() },
			func() { d.Write(0, full('z')) },
			func() { d.Crash(true) },
		} {
			act()
			wantFailed(t, "failed", d, 2)
		}
	}
	d := fresh(t, 8192)
	d.Fail()
	wantFailed(t, "a large one", d, 8192)
}

func TestFailedIsNotMended(t *testing.T) {
	d := fresh(t, 1)
	writes(t, d, "0a")
	flush(t, d)
	if d.Failed() {
		t.Error("failed ahead of Fail")
	}
	d.Fail()
	for range 1000 {
		d.Crash(true)
		d.Flush()
	}
	wantFailed(t, "for good", d, 1)
}

func TestPending(t *testing.T) {
	d := fresh(t, 9)
	order := []int{3, 0, 8, 3, 3, 1, 0, 8}
	for i, at := range order {
		write(t, d, at, full(byte(i)))
		if got := d.Pending(); !slices.Equal(got, order[:i+1]) {
			t.Errorf("pending %v; want %v", got, order[:i+1])
		}
	}
	d.Write(9, full('x'))
	d.Write(0, nil)
	d.Read(5)
	if got := d.Pending(); !slices.Equal(got, order) {
		t.Errorf("behind what is refused: %v; want %v", got, order)
	}
	d.Crash(true)
	if got := d.Pending(); len(got) != 0 {
		t.Errorf("behind a crash: %v", got)
	}
	writes(t, d, "71")
	d.Flush()
	if got := d.Pending(); len(got) != 0 {
		t.Errorf("behind a flush: %v", got)
	}
	writes(t, d, "71")
	d.Fail()
	if got := d.Pending(); len(got) != 0 {
		t.Errorf("behind a failure: %v", got)
	}
}

func TestDisksAreIndependent(t *testing.T) {
	image := letters("xy")
	a, b, c := fresh(t, 2), fresh(t, 2), loaded(t, image)
	other := loaded(t, image)
	writes(t, a, "0a")
	wantLetters(t, "the other one", b, "..", "..")
	writes(t, c, "1c")
	wantLetters(t, "the other one of the same image", other, "xy", "xy")
	writes(t, b, "1b")
	flush(t, a)
	c.Crash(true)
	wantLetters(t, "flushed", a, "a.", "a.")
	wantLetters(t, "not flushed", b, ".b", "..", 1)
	wantLetters(t, "crashed", c, "xc", "xc")
	a.Fail()
	wantLetters(t, "not failed", b, ".b", "..", 1)
	wantLetters(t, "not failed", other, "xy", "xy")
	wantFailed(t, "failed", a, 2)
}

func TestWhatIsHandedInStays(t *testing.T) {
	image := letters("xyz")
	data := full('a')
	keep := []bool{true, false, true}
	d := loaded(t, image)
	write(t, d, 0, data)
	write(t, d, 1, data)
	d.Crash(keep...)
	write(t, d, 2, data)
	flush(t, d)
	if !bytes.Equal(image, letters("xyz")) || !bytes.Equal(data, full('a')) || !slices.Equal(keep, []bool{true, false, true}) {
		t.Errorf("changed: image %q, data %q, keep %v", brief(image), data[:1], keep)
	}
}

func TestWhatIsHandedInIsNotKept(t *testing.T) {
	image := letters("xyz")
	d := loaded(t, image)
	scribble(image)
	wantLetters(t, "image written over", d, "xyz", "xyz")
	data := full('a')
	write(t, d, 0, data)
	scribble(data)
	wantLetters(t, "data written over", d, "ayz", "xyz", 0)
	keep := []bool{true}
	d.Crash(keep...)
	keep[0] = false
	wantLetters(t, "bools written over", d, "ayz", "ayz")
	copy(data, full('b')) // one slice, again and again
	write(t, d, 1, data)
	copy(data, full('c'))
	write(t, d, 2, data)
	copy(data, full('d'))
	wantLetters(t, "one slice for all", d, "abc", "ayz", 1, 2)
	flush(t, d)
	copy(data, full('e'))
	wantLetters(t, "flushed", d, "abc", "abc")
}

func TestSpareCapacityIsNotRead(t *testing.T) {
	all := letters("abc")
	wantLetters(t, "a prefix", loaded(t, all[:256]), "ab", "ab")
	for _, size := range []int{0, 127, 129} {
		if d, e := disk.Load(all[:size]); d != nil || e != api.ErrDiskSize {
			t.Errorf("Load of %d bytes of more: %v, %v", size, d, e)
		}
	}
	d := fresh(t, 2)
	if e := d.Write(0, all[:127]); e != api.ErrLength {
		t.Errorf("127 bytes of more: %v", e)
	}
	write(t, d, 0, all[:128])
	write(t, d, 1, all[128:256])
	keep := []bool{true, true, true}
	d.Crash(keep[:1]...)
	wantLetters(t, "one bool of more", d, "a.", "a.")
	if !bytes.Equal(all, letters("abc")) || !slices.Equal(keep, []bool{true, true, true}) {
		t.Error("spare capacity is written")
	}
}

func TestReadsAreTheirOwners(t *testing.T) {
	d := loaded(t, letters("xy"))
	writes(t, d, "1b")
	for at, c := range []byte("xb") { // a durable one, and one in the cache
		first, _ := d.Read(at)
		second, _ := d.Read(at)
		scribble(first)
		if !bytes.Equal(second, full(c)) {
			t.Errorf("sector %d: what was read before has changed", at)
		}
		wantLetters(t, "scribbled on", d, "xb", "xy", 1)
		third, _ := d.Read(at)
		_ = append(second, "more"...)
		if !bytes.Equal(third, full(c)) {
			t.Errorf("sector %d: what was read later has changed", at)
		}
	}
	flush(t, d)
	wantLetters(t, "flushed", d, "xb", "xb")
}

func TestReadsStayBehindLaterActs(t *testing.T) {
	d := loaded(t, letters("x"))
	durable, _ := d.Read(0)
	image := d.Image()
	writes(t, d, "0a")
	cached, _ := d.Read(0)
	pending := d.Pending()
	writes(t, d, "0b")
	flush(t, d)
	writes(t, d, "0c")
	d.Crash(true)
	d.Fail()
	if !bytes.Equal(durable, full('x')) || !bytes.Equal(cached, full('a')) || !bytes.Equal(image, full('x')) || !slices.Equal(pending, []int{0}) {
		t.Errorf("changed: %q, %q, %q, %v", durable[0], cached[0], image[0], pending)
	}
}

func TestListsAreTheirOwners(t *testing.T) {
	d := loaded(t, letters("xy"))
	writes(t, d, "1a0b1c")
	first, second := d.Pending(), d.Pending()
	for i := range first {
		first[i] = 99
	}
	_ = append(second, 99)
	_ = append(second[:0], 98, 97)
	image, other := d.Image(), d.Image()
	scribble(image)
	if !bytes.Equal(other, letters("xy")) {
		t.Error("the image of before has changed")
	}
	scribble(other)
	wantLetters(t, "scribbled on", d, "bc", "xy", 1, 0, 1)
	writes(t, d, "0d")
	wantLetters(t, "and one more", d, "dc", "xy", 1, 0, 1, 0)
	d.Crash(true, true, false, false)
	wantLetters(t, "crashed", d, "ba", "ba")
}

// A large cache, of many writes of each sector.
func TestManyWrites(t *testing.T) {
	const sectors, count = 8192, 100000
	d := fresh(t, sectors)
	source := draw(4)
	now, kept := make([]byte, sectors*128), make([]byte, sectors*128)
	pending, keep := []int{}, source.bools(count-7)
	for i := range count {
		at, b := source.below(sectors), full(byte(source.below(256)))
		write(t, d, at, b)
		pending = append(pending, at)
		copy(now[at*128:], b)
		if i < len(keep) && keep[i] {
			copy(kept[at*128:], b)
		}
		if got, e := d.Read(at); e != api.OK || !bytes.Equal(got, b) {
			t.Fatalf("write %d: %v", i, e)
		}
	}
	want(t, "written", d, now, make([]byte, sectors*128), pending...)
	d.Crash(keep...)
	want(t, "crashed", d, kept, kept)
}

// plain is the document's disk: each read goes through the whole cache.
type plain struct {
	durable [][]byte
	ats     []int
	data    [][]byte
}

func (p *plain) read(at int) []byte {
	for i := len(p.ats) - 1; i >= 0; i-- {
		if p.ats[i] == at {
			return p.data[i]
		}
	}
	return p.durable[at]
}

func (p *plain) reads() []byte {
	all := []byte{}
	for at := range p.durable {
		all = append(all, p.read(at)...)
	}
	return all
}

func (p *plain) crash(keep []bool) {
	for i, at := range p.ats {
		if i < len(keep) && keep[i] {
			p.durable[at] = p.data[i]
		}
	}
	p.ats, p.data = nil, nil
}

// step does one thing to both.
func (p *plain) step(t *testing.T, d *disk.Disk, source *draw) {
	switch source.below(12) {
	case 0:
		flush(t, d)
		all := make([]bool, len(p.ats))
		for i := range all {
			all[i] = true
		}
		p.crash(all)
	case 1:
		keep := source.bools(source.below(len(p.ats) + 3))
		d.Crash(keep...)
		p.crash(keep)
	case 2:
		wantWrite(t, d, len(p.durable), 128, api.ErrRange)
		wantWrite(t, d, source.below(len(p.durable)), 127, api.ErrLength)
	default:
		at, b := source.below(len(p.durable)), source.bytes(128)
		write(t, d, at, b)
		p.ats, p.data = append(p.ats, at), append(p.data, b)
	}
}

func TestLikeThePlainOne(t *testing.T) {
	for seed := range 60 {
		source := draw(100 + seed)
		image := source.bytes(128 * (1 + seed%9))
		d := loaded(t, image)
		p := &plain{}
		for at := range d.Sectors() {
			p.durable = append(p.durable, image[at*128:(at+1)*128])
		}
		for range 80 {
			p.step(t, d, &source)
			want(t, "a step", d, p.reads(), slices.Concat(p.durable...), p.ats...)
		}
		if t.Failed() {
			t.Fatalf("seed %d", seed)
		}
	}
}

func TestErrorNumbers(t *testing.T) {
	numbers := []uint16{uint16(api.ErrFailed), uint16(api.ErrRange), uint16(api.ErrLength), uint16(api.ErrDiskSize)}
	if !slices.Equal(numbers, []uint16{2, 3, 4, 40}) {
		t.Errorf("numbers %v", numbers)
	}
}

func TestDocumentExamples(t *testing.T) {
	if d, e := disk.New(0); d != nil || e != api.ErrDiskSize {
		t.Errorf("example 1: %v, %v", d, e)
	}
	d := fresh(t, 2)
	writes(t, d, "0a0b1c")
	wantLetters(t, "example 1", d, "bc", "..", 0, 0, 1)
	d.Crash(true, false, true)
	wantLetters(t, "example 1", d, "ac", "ac")
	writes(t, d, "0d")
	flush(t, d)
	writes(t, d, "0e")
	d.Crash()
	wantLetters(t, "example 2", d, "dc", "dc")
	wantWrite(t, d, 2, 128, api.ErrRange)
	wantWrite(t, d, -1, 128, api.ErrRange)
	wantWrite(t, d, 0, 3, api.ErrLength)
	d.Fail()
	wantRefused(t, d, 0, api.ErrFailed)
	wantWrite(t, d, 9, 0, api.ErrFailed)
	wantFailed(t, "example 3", d, 2)
}
