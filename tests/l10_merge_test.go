package tests

import (
	"fmt"
	"math"
	"slices"
	"strings"
	"sync"
	"testing"

	"loop.example/g00103/impl"
)

// merging is what MergeShelf, or InstallShelf, is asked beside a disk and a
// shelf.
type merging struct {
	text    string
	install bool
	base    int
	term    int
	conf    []int
}

// shortShelf tells a shelf without the whole of its directory.
func shortShelf(s impl.Shelf) string {
	return fmt.Sprintf("{%v, %d Spots %.90s, %d}", s.Man, len(s.Dir), fmt.Sprint(s.Dir), s.Stamp)
}

func mergeOf(base, term int, conf ...int) merging {
	return merging{base: base, term: term, conf: conf}
}

func installOf(text string, base, term int, conf ...int) merging {
	return merging{text: text, install: true, base: base, term: term, conf: conf}
}

// installOfBatch asks for the frame of b, with its own Stamp as base.
func installOfBatch(b impl.Batch, term int, conf ...int) merging {
	return installOf(segmentOf(b), b.Stamp, term, conf...)
}

func (m merging) ask(d impl.Disk, s impl.Shelf) (impl.Shelf, []impl.Raw, bool) {
	if m.install {
		return impl.InstallShelf(d, s, m.text, m.base, m.term, m.conf)
	}
	return impl.MergeShelf(d, s, m.base, m.term, m.conf)
}

func (m merging) String() string {
	if m.install {
		return fmt.Sprintf("InstallShelf(%.20q of %d, %d, %d, %v)", m.text, len(m.text), m.base, m.term, m.conf)
	}
	return fmt.Sprintf("MergeShelf(%d, %d, %v)", m.base, m.term, m.conf)
}

// mergedSegment is the map in one frame.
func mergedSegment(m []impl.Pair, stamp int) string { return segmentOf(batchOfPairs(stamp, m)) }

// plainFirstBatch is the batch that a text begins with, and its frame.
func plainFirstBatch(text string) (impl.Batch, string, bool) {
	records, _ := plainUnframe(text)
	if len(records) == 0 {
		return impl.Batch{}, "", false
	}
	b, ok := plainReadBatch(records[0])
	return b, plainFrame(records[0]), ok
}

// plainAsk is the document's rule of both, one refusal behind the other.
func plainAsk(d impl.Disk, s impl.Shelf, m merging) (impl.Shelf, []impl.Raw, bool) {
	now, cleaning, code := plainOpen(d)
	if code != 0 || len(cleaning) > 0 || !sameShelf(now, s) || m.base < s.Stamp {
		return impl.Shelf{}, nil, false
	}
	text := m.text
	if m.install {
		b, first, ok := plainFirstBatch(text)
		if !ok || first != text || b.Stamp != m.base {
			return impl.Shelf{}, nil, false
		}
	} else {
		pairs, ok := plainShelfMap(d, s)
		if !ok || m.base != s.Stamp {
			return impl.Shelf{}, nil, false
		}
		text = mergedSegment(pairs, s.Stamp)
	}
	man := manifestOf(numbers(s.Man.Next), s.Man.Next+1, m.base, m.term, m.conf)
	if !plainManifestOk(man) {
		return impl.Shelf{}, nil, false
	}
	list := []impl.Raw{put(segFile(s.Man.Next), text), put("m+", plainManifestText(man)), move("m+", "m")}
	for _, seg := range s.Man.Segs {
		list = append(list, drop(segFile(seg)))
	}
	fresh, _, _ := plainScan(text, s.Man.Next)
	dir, ok := plainDirMore(nil, fresh)
	for _, r := range list {
		if ok {
			d, ok = plainDo(d, r)
		}
	}
	if !ok {
		return impl.Shelf{}, nil, false
	}
	man.Conf = slices.Clone(m.conf)
	return impl.Shelf{Man: man, Dir: dir, Stamp: m.base}, list, true
}

// plainSnap is the document's rule of SnapText; a disk need not be clean.
func plainSnap(d impl.Disk, s impl.Shelf) (string, bool) {
	now, _, code := plainOpen(d)
	if code != 0 || !sameShelf(now, s) || s.Man.Base <= 0 {
		return "", false
	}
	text, _ := impl.FileAt(d, segFile(s.Man.Segs[0]))
	b, first, ok := plainFirstBatch(text)
	if !ok || b.Stamp != s.Man.Base {
		return "", false
	}
	return first, true
}

// wantAsked holds what is asked against the plain rule, and answers the disk
// and the shelf behind it, which are the same when it is refused.
func wantAsked(t *testing.T, why string, d impl.Disk, s impl.Shelf, m merging) (impl.Disk, impl.Shelf, []impl.Raw) {
	t.Helper()
	want, list, right := plainAsk(d, s, m)
	got, raws, ok := m.ask(d, s)
	if ok != right || !sameShelf(got, want) || !slices.Equal(raws, list) {
		t.Errorf("%s: %v of %.200s, %s = %s, %s, %v; want %s, %s, %v",
			why, m, short(d), shortShelf(s), shortShelf(got), shortRaws(raws), ok, shortShelf(want), shortRaws(list), right)
	}
	if !right {
		return d, s, nil
	}
	behind, done := impl.PutRaws(d, list)
	if done != len(list) {
		t.Errorf("%s: %d of %d raw writes are done", why, done, len(list))
	}
	wantOpened(t, why+", opened again", behind, want, nil, 0)
	return behind, want, list
}

// wantMade asks for what is not refused, and answers the same.
func wantMade(t *testing.T, why string, d impl.Disk, s impl.Shelf, m merging) (impl.Disk, impl.Shelf, []impl.Raw) {
	t.Helper()
	behind, then, list := wantAsked(t, why, d, s, m)
	if list == nil {
		t.Errorf("%s: %v of %.200s, %s is refused", why, m, short(d), shortShelf(s))
	}
	return behind, then, list
}

// wantMergedMap merges, and asks for the same map in one segment.
func wantMergedMap(t *testing.T, why string, d impl.Disk, s impl.Shelf, m merging, pairs []impl.Pair) (impl.Disk, impl.Shelf) {
	t.Helper()
	behind, then, _ := wantMade(t, why, d, s, m)
	wantShelfMap(t, why, behind, then, pairs)
	man := manifestOf(numbers(s.Man.Next), s.Man.Next+1, m.base, m.term, m.conf)
	if !sameManifest(then.Man, man) || then.Stamp != m.base {
		t.Errorf("%s: the shelf has the manifest %v and the Stamp %d; want %v", why, then.Man, then.Stamp, man)
	}
	if len(behind.Files) != len(d.Files)-len(s.Man.Segs)+1 {
		t.Errorf("%s: of %d files and %d segments there are %d files", why, len(d.Files), len(s.Man.Segs), len(behind.Files))
	}
	return behind, then
}

func wantRefused(t *testing.T, why string, d impl.Disk, s impl.Shelf, m merging) {
	t.Helper()
	if got, list, ok := m.ask(d, s); ok || !noShelf(got) || len(list) > 0 {
		t.Errorf("%s: %v of %.200s, %s = %s, %s, %v; want none", why, m, short(d), shortShelf(s), shortShelf(got), shortRaws(list), ok)
	}
}

func wantSnap(t *testing.T, why string, d impl.Disk, s impl.Shelf, want string) {
	t.Helper()
	if text, ok := impl.SnapText(d, s); !ok || text != want {
		t.Errorf("%s: SnapText(%.200s, %s) = %.40q of %d, %v; want %.40q of %d", why, short(d), shortShelf(s), text, len(text), ok, want, len(want))
	}
}

func wantNoSnap(t *testing.T, why string, d impl.Disk, s impl.Shelf) {
	t.Helper()
	if text, ok := impl.SnapText(d, s); ok || text != "" {
		t.Errorf("%s: SnapText(%.200s, %s) = %.40q of %d, %v; want none", why, short(d), shortShelf(s), text, len(text), ok)
	}
}

func wantSnapAsked(t *testing.T, why string, d impl.Disk, s impl.Shelf) {
	t.Helper()
	if want, right := plainSnap(d, s); right {
		wantSnap(t, why, d, s, want)
	} else {
		wantNoSnap(t, why, d, s)
	}
}

func TestMergeBytes(t *testing.T) {
	d, _ := impl.FormatShelf(numbers(2, 3))
	d, s, _ := wantAdded(t, "one", d, opened(t, "formatted", d), batchOf(4, set("a", "old"), set("b", "y")))
	d, s, _ = wantAdded(t, "two", d, s, batchOf(5, set("a", "xy"), gone("b"), set("c", "")))
	then, list, ok := impl.MergeShelf(d, s, 5, 7, numbers(1, 4))
	want := impl.Shelf{Man: manifestOf(numbers(1), 2, 5, 7, numbers(1, 4)), Dir: spots(spot("a", 1, 11, 2), spot("c", 1, 17, 0)), Stamp: 5}
	if !ok || !sameShelf(then, want) || len(list) != 4 {
		t.Fatalf("MergeShelf = %v, %s, %v; want %v", then, shortRaws(list), ok, want)
	}
	record := "\x05\x02\x01a\x00\x02xy\x01c\x00\x00"
	if text := list[0].Text; list[0] != put("g1", text) || len(text) != 17 || text[:1] != "\x0c" || text[5:] != record {
		t.Errorf("the segment comes by %v", list[0])
	}
	if text := list[1].Text; list[1] != put("m+", text) || len(text) != 12 || text[:8] != "\x01\x01\x02\x05\x07\x02\x01\x04" {
		t.Errorf("the manifest comes by %v", list[1])
	}
	if list[2] != move("m+", "m") || list[3] != drop("g0") {
		t.Errorf("then come %v and %v", list[2], list[3])
	}
	behind, _ := impl.PutRaws(d, list)
	if !sameDisk(behind, diskOf("g1", list[0].Text, "m", list[1].Text)) {
		t.Errorf("what is left is %s", short(behind))
	}
	wantShelfMap(t, "merged", behind, then, mapOf("a", "xy", "c", ""))
	wantSnap(t, "merged", behind, then, list[0].Text)

	other, _ := impl.FormatShelf(numbers(1))
	there, raws, ok := impl.InstallShelf(other, opened(t, "other", other), list[0].Text, 5, 7, numbers(1, 4))
	if !ok || !sameShelf(there, want) || !slices.Equal(raws, list) {
		t.Errorf("InstallShelf = %v, %s, %v; want %v, %s", there, shortRaws(raws), ok, want, shortRaws(list))
	}
}

// Segments of any numbers go in the manifest's order, not in that of their
// names; other files stay.
func TestRawWritesOfMerges(t *testing.T) {
	frame := segmentOf(batchOf(9, set("z", "installed")))
	for n := 1; n <= 8; n++ {
		for _, man := range []impl.Manifest{
			manifestFrom(0, n, n), manifestFrom(4, n, 300), manifestFrom(7, n, 20), manifestFrom(96, n, 105), manifestFrom(999-n, n, 999),
		} {
			texts := make([]string, n)
			for i := range texts {
				texts[i] = segmentOf(batchOf(3+i/2, set(fmt.Sprint("k", i), fmt.Sprint("v", i)), set("last", fmt.Sprint(i))))
			}
			d := withFiles(shelfDisk(man, texts...), "log", "a log", "vote", "a vote", "g01", "no segment")
			s := opened(t, "segments", d)
			m, _ := impl.ShelfMap(d, s)
			next := segFile(man.Next)
			for _, c := range []struct {
				ask  merging
				text string
			}{
				{mergeOf(s.Stamp, 5, 2, 3), mergedSegment(m, s.Stamp)},
				{installOf(frame, 9, 5, 2, 3), frame},
			} {
				then := manifestOf(numbers(man.Next), man.Next+1, c.ask.base, 5, numbers(2, 3))
				want := []impl.Raw{put(next, c.text), put("m+", plainManifestText(then)), move("m+", "m")}
				for _, seg := range man.Segs {
					want = append(want, drop(segFile(seg)))
				}
				got, list, ok := c.ask.ask(d, s)
				if !ok || !slices.Equal(list, want) || !sameManifest(got.Man, then) {
					t.Errorf("%v: %v = %v, %s, %v; want %v, %s", man, c.ask, got, shortRaws(list), ok, then, shortRaws(want))
				}
				behind, _, _ := wantMade(t, "segments", d, s, c.ask)
				left := withFiles(diskOf(), "log", "a log", "vote", "a vote", "g01", "no segment", "m", plainManifestText(then), next, c.text)
				if !sameDisk(behind, left) {
					t.Errorf("%v: %v leaves %s; want %s", man, c.ask, short(behind), short(left))
				}
			}
		}
	}
}

// drawnShelf has some batches, of which the map is told too.
func drawnShelf(t *testing.T, d *drawing, batches int) (impl.Disk, impl.Shelf, []impl.Pair) {
	t.Helper()
	disk, _ := impl.FormatShelf(drawnSet(d, 4, 1, 5))
	if d.below(2) == 0 {
		disk = withFiles(disk, "log", d.bytes(40), "vote", d.bytes(40), "a", "", "z", "")
	}
	return drawnMore(t, d, disk, opened(t, "formatted", disk), nil, batches)
}

func drawnMore(t *testing.T, d *drawing, disk impl.Disk, s impl.Shelf, m []impl.Pair, batches int) (impl.Disk, impl.Shelf, []impl.Pair) {
	t.Helper()
	most, keys := []int{3, 12, 60}[d.below(3)], []int{10, 60, 250}[d.below(3)]
	for range batches {
		b := drawnNext(d, s.Stamp, most, keys)
		then, list, ok := impl.AddBatch(disk, s, b)
		if more, right := plainMapDo(m, b); ok && right {
			disk, _ = impl.PutRaws(disk, list)
			s, m = then, more
		}
	}
	wantShelfMap(t, "drawn", disk, s, m)
	return disk, s, m
}

func TestDrawnShelvesMerged(t *testing.T) {
	d := &drawing{state: 23}
	segs := make([]int, 9)
	for range 60 {
		disk, s, m := drawnShelf(t, d, d.below(24))
		for range 4 {
			segs[len(s.Man.Segs)]++
			ask := mergeOf(s.Stamp, d.below(100001), drawnSet(d, 4, 1, 5)...)
			disk, s = wantMergedMap(t, "drawn", disk, s, ask, m)
			wantSnapAsked(t, "drawn", disk, s)
			disk, s, m = drawnMore(t, d, disk, s, m, d.below(16))
			wantSnapAsked(t, "drawn, with more", disk, s)
		}
	}
	several := 0
	for _, n := range segs[3:] {
		several += n
	}
	if segs[1] < 20 || segs[2] < 20 || several < 40 {
		t.Errorf("so many shelves had 0, 1, 2 .. segments: %v", segs)
	}
}

// wantMergeCutAnywhere asks for the shelf ahead, on the disk that was, up to
// the move; then for the one behind.
func wantMergeCutAnywhere(t *testing.T, why string, d impl.Disk, s impl.Shelf, m merging) {
	t.Helper()
	behind, then, list := wantMade(t, why, d, s, m)
	before, _ := impl.ShelfMap(d, s)
	after, _ := impl.ShelfMap(behind, then)
	if !m.install && !slices.Equal(before, after) {
		t.Errorf("%s: the map is another: %v; was %v", why, after, before)
	}
	for whole := range len(list) + 1 {
		most := 0
		if whole < len(list) {
			most = len(list[whole].Text)
		}
		for part := range most + 1 {
			clean, now := cutShelf(t, why, d, list, whole, part)
			if whole >= 3 {
				wantShelfMap(t, why+", behind", clean, now, after)
				if !sameShelf(now, then) || !sameDisk(clean, behind) || now.Man.Base != m.base {
					t.Errorf("%s: cut at %d and %d bytes it is not the one behind", why, whole, part)
				}
				continue
			}
			wantShelfMap(t, why+", ahead", clean, now, before)
			if !sameShelf(now, s) || !sameDisk(clean, d) {
				t.Errorf("%s: cut at %d and %d bytes it is not the one ahead", why, whole, part)
			}
		}
	}
}

func TestRawWritesOfMergeShelfCutAnywhere(t *testing.T) {
	d := &drawing{state: 24}
	segs := 0
	for range 20 {
		disk, s, m := drawnShelf(t, d, d.below(20))
		for range 2 {
			segs += len(s.Man.Segs)
			ask := mergeOf(s.Stamp, d.below(100001), drawnSet(d, 4, 1, 5)...)
			wantMergeCutAnywhere(t, "drawn", disk, s, ask)
			disk, s = wantMergedMap(t, "drawn", disk, s, ask, m)
			disk, s, m = drawnMore(t, d, disk, s, m, 1+d.below(12))
		}
	}
	if segs < 60 {
		t.Errorf("%d segments were merged", segs)
	}
}

func TestRawWritesOfInstallShelfCutAnywhere(t *testing.T) {
	d := &drawing{state: 25}
	for range 15 {
		disk, s, _ := drawnShelf(t, d, d.below(20))
		b := drawnNext(d, s.Stamp, 60, 250)
		wantMergeCutAnywhere(t, "drawn", disk, s, installOfBatch(b, d.below(100001), drawnSet(d, 4, 1, 5)...))
	}
}

func TestSmallAndGreatMergesCutAnywhere(t *testing.T) {
	texts := []string{"", segmentOf(batchOf(0)), segmentOf(batchOf(5, set("a", ""))), manyKeys("k", 60), segmentOfSize(4000)}
	for i, text := range texts {
		for _, d := range []impl.Disk{segsDisk(text), segsDisk(text, "", text), segsDisk("", text, "", "", "", "", "", "")} {
			s := opened(t, "small or great", d)
			wantMergeCutAnywhere(t, fmt.Sprint("text ", i), d, s, mergeOf(s.Stamp, 1, 1, 2, 3, 4))
			wantMergeCutAnywhere(t, fmt.Sprint("text ", i), d, s, installOfBatch(batchOf(7, set("a", "new"), gone("b")), 1, 2))
		}
	}
}

// What is cut ahead of the move can be asked for again; what is cut behind it
// has come to be.
func TestACutMergeIsAskedForAgain(t *testing.T) {
	d := segsDisk(manyKeys("k", 3), segmentOfSize(100), segmentOf(batchOf(6, gone("k01"))))
	s := opened(t, "ahead", d)
	for _, m := range []merging{mergeOf(6, 2, 1, 3), installOfBatch(batchOf(8, set("new", "one")), 2, 1, 3)} {
		then, list, _ := m.ask(d, s)
		for whole := range list {
			for part := range len(list[whole].Text) + 1 {
				clean, now := cutShelf(t, "cut", d, list, whole, part)
				again, raws, ok := m.ask(clean, now)
				if whole < 3 && (!ok || !sameShelf(again, then) || !slices.Equal(raws, list)) {
					t.Errorf("asked again: %v, %s, %v", again, shortRaws(raws), ok)
				}
				if whole >= 3 && !sameShelf(now, then) {
					t.Errorf("cut behind the move it is %v; want %v", now, then)
				}
			}
		}
	}
}

// A shelf that was cut is clean and takes batches and merges as any other.
func TestAShelfGoesOnBehindACutMerge(t *testing.T) {
	d := &drawing{state: 26}
	for range 12 {
		disk, s, m := drawnShelf(t, d, 6+d.below(14))
		_, list, _ := impl.MergeShelf(disk, s, s.Stamp, 3, numbers(1, 2))
		for whole := range len(list) + 1 {
			part := 0
			if whole < len(list) && len(list[whole].Text) > 0 {
				part = d.below(len(list[whole].Text))
			}
			clean, now := cutShelf(t, "cut", disk, list, whole, part)
			clean, now, more := drawnMore(t, d, clean, now, m, 4)
			wantMergedMap(t, "behind a cut", clean, now, mergeOf(now.Stamp, 4, 1), more)
		}
	}
}

// Each merge takes the next segment, up to MaxSeg.
func TestMergesOneBehindTheOther(t *testing.T) {
	d := segsDisk(manyKeys("k", 5), segmentOf(batchOf(7, set("a", "one"))))
	s := opened(t, "ahead", d)
	m := append(mapOf("a", "one"), mapOfMany("k", 5, "v")...)
	for next := 2; next <= 999; next++ {
		then, list, ok := impl.MergeShelf(d, s, 7, next, numbers(1+next%4))
		d, _ = impl.PutRaws(d, list)
		if !ok || !slices.Equal(then.Man.Segs, numbers(next)) || then.Man.Next != next+1 || then.Man.BaseTerm != next || len(d.Files) != 2 {
			t.Fatalf("the merge to %d is %v, %v", next, then, ok)
		}
		s = then
	}
	wantOpened(t, "MaxSeg", d, s, nil, 0)
	wantShelfMap(t, "MaxSeg", d, s, m)
	wantRefused(t, "behind MaxSeg", d, s, mergeOf(7, 1, 1))
	wantRefused(t, "behind MaxSeg", d, s, installOfBatch(batchOf(7), 1, 1))
}

func TestNextAtItsEnd(t *testing.T) {
	text := segmentOf(batchOf(4, set("a", "x")))
	for _, n := range []int{1, 2, 7, 8} {
		for next := 994; next <= 1000; next++ {
			for _, man := range []impl.Manifest{manifestFrom(0, n, next), manifestFrom(next-n, n, next)} {
				d := shelfDisk(man, slices.Repeat([]string{text}, n)...)
				s := opened(t, "Next", d)
				for _, m := range []merging{mergeOf(4, 1, 1), installOf(text, 4, 1, 1)} {
					if next == 1000 {
						wantRefused(t, "Next MaxSeg + 1", d, s, m)
						continue
					}
					_, then, _ := wantMade(t, "Next", d, s, m)
					if then.Man.Next != next+1 || !slices.Equal(then.Man.Segs, numbers(next)) {
						t.Errorf("%v: %v makes it %v", man, m, then.Man)
					}
				}
			}
		}
	}
}

func TestBasesOfMerges(t *testing.T) {
	for _, c := range []struct{ base, stamp int }{
		{0, 0}, {0, 1}, {0, 9}, {5, 0}, {5, 4}, {5, 5}, {5, 6}, {127, 128}, {0, 99999}, {0, 100000}, {100000, 3},
	} {
		man := manifestOf(numbers(0, 3), 6, c.base, 2, numbers(1, 2))
		for _, d := range []impl.Disk{
			shelfDisk(man, segmentOf(batchOf(c.stamp, set("a", "x"))), ""),
			shelfDisk(man, segmentOf(batchOf(0, set("a", "y"))), segmentOf(batchOf(c.stamp, set("a", "x")))),
		} {
			s := opened(t, "a base", d)
			at := max(c.base, c.stamp)
			wantMergedMap(t, "base the Stamp", d, s, mergeOf(at, 3, 1), mapOf("a", "x"))
			for _, base := range []int{at - 1, at + 1, at - 2, at + 2, -at - 1, -1, 100000, 100001, 0, math.MinInt, math.MaxInt} {
				if base != at {
					wantRefused(t, "another base", d, s, mergeOf(base, 3, 1))
				}
				m := installOf(segmentOf(batchOf(max(base, 0)%100001, set("b", "y"))), base, 3, 1)
				if base < at || base > 100000 {
					wantRefused(t, "a base below, or too great", d, s, m)
					continue
				}
				behind, then := wantMergedMap(t, "a base at least the Stamp", d, s, m, mapOf("b", "y"))
				wantSnapAsked(t, "installed", behind, then)
			}
			if at < 100000 {
				wantMergedMap(t, "one above", d, s, installOfBatch(batchOf(at+1, set("b", "")), 3, 1), mapOf("b", ""))
				wantMergedMap(t, "the greatest", d, s, installOfBatch(batchOf(100000, set("b", "")), 3, 1), mapOf("b", ""))
			}
			wantMergedMap(t, "the Stamp itself", d, s, installOfBatch(batchOf(at, set("b", "")), 3, 1), mapOf("b", ""))
			if at > 0 {
				wantRefused(t, "one below", d, s, installOfBatch(batchOf(at-1, set("b", "")), 3, 1))
			}
		}
	}
}

// The Stamp of the shelf counts, be it Base or a batch's that is not the last.
func TestMergedStamps(t *testing.T) {
	d := segsDisk(segmentOf(batchOf(9, set("a", "one")), batchOf(3, set("b", "two"))), segmentOf(batchOf(6, set("c", "three"))))
	s := opened(t, "Stamps that fall", d)
	behind, then := wantMergedMap(t, "Stamps that fall", d, s, mergeOf(9, 1, 1), mapOf("a", "one", "b", "two", "c", "three"))
	wantSnap(t, "Stamps that fall", behind, then, mergedSegment(mapOf("a", "one", "b", "two", "c", "three"), 9))
	for _, base := range []int{3, 6, 8, 10} {
		wantRefused(t, "a Stamp of another batch", d, s, mergeOf(base, 1, 1))
	}
	d = shelfDisk(manifestOf(numbers(2), 4, 50, 3, numbers(1)), segmentOf(batchOf(7, set("a", "one"))))
	s = opened(t, "Base above", d)
	behind, then = wantMergedMap(t, "Base above", d, s, mergeOf(50, 1, 1), mapOf("a", "one"))
	wantSnap(t, "Base above", behind, then, mergedSegment(mapOf("a", "one"), 50))
	wantRefused(t, "the batch's Stamp", d, s, mergeOf(7, 1, 1))
}

func TestManifestsOfMerges(t *testing.T) {
	text := segmentOf(batchOf(4, set("a", "x")))
	d := shelfDisk(manifestOf(numbers(0, 3), 6, 2, 2, numbers(1, 2)), text, text)
	s := opened(t, "a shelf", d)
	for _, m := range []merging{mergeOf(4, 2, 1, 2), installOf(text, 4, 2, 1, 2), installOfBatch(batchOf(8), 2, 1, 2)} {
		for _, term := range []int{0, 1, 2, 127, 128, 99999, 100000} {
			m.term = term
			if _, then, _ := wantMade(t, "a term", d, s, m); then.Man.BaseTerm != term {
				t.Errorf("%v: the BaseTerm is %d", m, then.Man.BaseTerm)
			}
		}
		for _, term := range []int{-1, -2, 100001, 1000000001, math.MinInt, math.MaxInt} {
			m.term = term
			wantRefused(t, "a term", d, s, m)
		}
		m.term = 2
		for _, conf := range listsOf(4, 0, 1, 2, 4, 5) {
			m.conf = conf
			_, then, list := wantAsked(t, "a conf", d, s, m)
			if right := plainConfOk(conf); right != (list != nil) || right && !slices.Equal(then.Man.Conf, conf) {
				t.Errorf("%v: %s, %v", m, shortRaws(list), then.Man)
			}
		}
		for why, wrong := range wrongManifests() {
			if !plainConfOk(wrong.Conf) {
				m.conf = wrong.Conf
				wantRefused(t, why, d, s, m)
			}
		}
	}
}

// What the manifest had of Base, BaseTerm and Conf does not stay.
func TestOldManifestsGiveWay(t *testing.T) {
	for why, man := range rightManifests() {
		texts := make([]string, len(man.Segs))
		texts[len(texts)-1] = segmentOf(batchOf(4, set("a", "xy")))
		d := shelfDisk(man, texts...)
		s := opened(t, why, d)
		for _, m := range []merging{mergeOf(s.Stamp, 77, 2), installOfBatch(batchOf(s.Stamp, set("a", "xy")), 77, 2)} {
			if man.Next > 999 {
				wantRefused(t, why, d, s, m)
				continue
			}
			wantMergedMap(t, why, d, s, m, mapOf("a", "xy"))
		}
	}
}

func TestAnotherShelfIsNotMerged(t *testing.T) {
	man := manifestOf(numbers(2, 6), 9, 4, 3, numbers(1, 2))
	for _, size := range []int{0, 499, 500} {
		d := shelfDisk(man, segmentOf(batchOf(4, set("a", "one"), set("b", ""))), segmentOfSize(size))
		s := opened(t, "a shelf", d)
		wantMade(t, "the shelf itself", d, s, mergeOf(s.Stamp, 3, 1))
		wantMade(t, "the shelf itself", d, s, installOfBatch(batchOf(1000), 3, 1))
		wantSnap(t, "the shelf itself", d, s, segmentOf(batchOf(4, set("a", "one"), set("b", ""))))
		for why, other := range otherShelves(s) {
			if sameShelf(other, s) {
				t.Fatalf("%s: it is the same", why)
			}
			wantRefused(t, why, d, other, mergeOf(s.Stamp, 3, 1))
			wantRefused(t, why, d, other, mergeOf(other.Stamp, 3, 1))
			wantRefused(t, why, d, other, installOfBatch(batchOf(s.Stamp), 3, 1))
			wantRefused(t, why, d, other, installOfBatch(batchOf(1000), 3, 1))
			wantNoSnap(t, why, d, other)
		}
	}
}

// The shelf ahead of a batch, or of a merge, is another one behind it.
func TestAnOldShelfIsNotMerged(t *testing.T) {
	d := segsDisk(segmentOf(batchOf(4, set("a", "one"))))
	s := opened(t, "ahead", d)
	merged, then, _ := wantMade(t, "merged", d, s, mergeOf(4, 1, 1))
	added, now, _ := wantAdded(t, "added", merged, then, batchOf(4))
	for _, c := range []struct {
		disk  impl.Disk
		shelf impl.Shelf
	}{{d, then}, {d, now}, {merged, s}, {added, s}} {
		wantRefused(t, "another disk's", c.disk, c.shelf, mergeOf(4, 1, 1))
		wantRefused(t, "another disk's", c.disk, c.shelf, installOfBatch(batchOf(4), 1, 1))
		wantNoSnap(t, "another disk's", c.disk, c.shelf)
	}
	// A batch of no changes leaves the shelf the same, if not the disk.
	wantMade(t, "the same shelf", added, then, mergeOf(4, 1, 1))
	wantSnap(t, "the same shelf", added, then, mergedSegment(mapOf("a", "one"), 4))
}

// thingsToClean are files that a right shelf may need to be cleaned of.
func thingsToClean(d impl.Disk, last, text string) map[string]impl.Disk {
	return map[string]impl.Disk{
		"a NameNew":                 withFiles(d, "m+", ""),
		"a NameNew with words":      withFiles(d, "m+", "new"),
		"a segment":                 withFiles(d, "g100", text),
		"the next segment":          withFiles(d, "g9", ""),
		"the next segment's frame":  withFiles(d, "g9", text),
		"a byte behind":             withFiles(d, last, text+"x"),
		"a torn batch behind":       withFiles(d, last, text+segmentOf(batchOf(9))[:6]),
		"a record that is no batch": withFiles(d, last, text+plainFrame("no")),
		"all of these":              withFiles(d, "m+", "", "g100", text, "g9", "", last, text+"x"),
	}
}

// SnapText asks for the same shelf alone.
func TestADiskThatIsNotCleanIsNotMerged(t *testing.T) {
	first := segmentOf(batchOf(4, set("a", "xy")))
	for _, texts := range [][]string{{first}, {first, segmentOf(batchOf(5, set("b", "")))}} {
		segs := numbers(3, 7)[:len(texts)]
		d := shelfDisk(manifestOf(segs, 9, 4, 1, numbers(1)), texts...)
		s := opened(t, "clean", d)
		last := len(texts) - 1
		for why, dirty := range thingsToClean(d, segFile(segs[last]), texts[last]) {
			wantRefused(t, why, dirty, s, mergeOf(s.Stamp, 2, 1))
			wantRefused(t, why, dirty, s, installOfBatch(batchOf(s.Stamp), 2, 1))
			wantRefused(t, why, dirty, s, installOfBatch(batchOf(50), 2, 1))
			wantSnap(t, why, dirty, s, first)
			wantSnapAsked(t, why, dirty, s)
			_, list, code := impl.OpenShelf(dirty)
			clean, done := impl.PutRaws(dirty, list)
			if code != 0 || len(list) == 0 || done != len(list) || !sameDisk(clean, d) {
				t.Errorf("%s: cleaned it is %s", why, short(clean))
			}
			wantMade(t, why+", cleaned", clean, s, mergeOf(s.Stamp, 2, 1))
		}
		for _, name := range append(namesThatLookLikeSegments(), "log", "vote", "z") {
			other := withFiles(d, name, first)
			wantMade(t, "another file", other, s, mergeOf(s.Stamp, 2, 1))
			wantMade(t, "another file", other, s, installOfBatch(batchOf(50), 2, 1))
			wantSnap(t, "another file", other, s, first)
		}
	}
}

func TestDisksWithCodesAreNotMerged(t *testing.T) {
	text := segmentOf(batchOf(4, set("a", "xy")))
	d := shelfDisk(manifestOf(numbers(0, 1), 2, 4, 0, numbers(1)), text, text)
	s := opened(t, "right", d)
	disks := map[string]impl.Disk{
		"no files":                      {},
		"no manifest":                   withoutFile(d, "m"),
		"a manifest with a byte turned": withFiles(d, "m", turned(plainManifestText(s.Man), 3, 4)),
		"no first segment":              withoutFile(d, "g0"),
		"no last segment":               withoutFile(d, "g1"),
		"a byte behind the first":       withFiles(d, "g0", text+"x"),
		"too many Keys":                 withFiles(d, "g1", manyKeys("k", 60)),
		"a name too long":               withFiles(d, letters(13), ""),
		"a text too long":               withFiles(d, "z", letters(20001)),
		"files too many":                {Files: append(fullDisk(28).Files, d.Files...)},
	}
	for why, wrong := range wrongDisks() {
		disks[why] = wrong
	}
	for why, wrong := range disks {
		now, _, code := impl.OpenShelf(wrong)
		if code == 0 || !noShelf(now) {
			t.Fatalf("%s: the code is 0", why)
		}
		for _, shelf := range []impl.Shelf{s, {}, {Man: s.Man}, {Man: s.Man, Stamp: 4}} {
			wantRefused(t, why, wrong, shelf, mergeOf(shelf.Stamp, 2, 1))
			wantRefused(t, why, wrong, shelf, installOfBatch(batchOf(4), 2, 1))
			wantRefused(t, why, wrong, shelf, installOfBatch(batchOf(0), 2, 1))
			wantNoSnap(t, why, wrong, shelf)
		}
	}
}

// notOneBatch has texts that are not just one frame of a right batch with the
// Stamp 50.
func notOneBatch() map[string]string {
	right := segmentOf(batchOf(50, set("a", "one"), gone("b")))
	texts := map[string]string{
		"no bytes":                      "",
		"the batch without a frame":     plainBatchText(batchOf(50)),
		"two frames":                    right + right,
		"two frames, the last above":    right + segmentOf(batchOf(51)),
		"two frames, the first below":   segmentOf(batchOf(49)) + right,
		"three frames":                  right + right + right,
		"a frame of no batch":           plainFrame("no batch"),
		"a frame of no batch, and one":  plainFrame("no batch") + right,
		"a frame and one of no batch":   right + plainFrame("no batch"),
		"a byte behind":                 right + "x",
		"a byte 0 behind":               right + "\x00",
		"a byte ahead":                  "\x00" + right,
		"a torn frame behind":           right + right[:len(right)-1],
		"a Stamp below":                 segmentOf(batchOf(49, set("a", "one"))),
		"a Stamp above":                 segmentOf(batchOf(51, set("a", "one"))),
		"the Stamp 0":                   segmentOf(batchOf(0, set("a", "one"))),
		"a Stamp too great":             segmentOf(batchOf(100001)),
		"a batch and a byte":            plainFrame(plainBatchText(batchOf(50)) + "\x00"),
		"a batch without an end":        plainFrame(plainBatchText(batchOf(50, set("z", "x")))[:5]),
		"Keys that fall":                segmentOf(batchOf(50, set("b", ""), set("a", ""))),
		"two Keys alike":                segmentOf(batchOf(50, set("a", ""), set("a", ""))),
		"an empty Key":                  segmentOf(batchOf(50, set("", ""))),
		"a Key of 11 bytes":             segmentOf(batchOf(50, set(letters(11), ""))),
		"a Value of 41 bytes":           segmentOf(batchOf(50, set("a", letters(41)))),
		"changes too many":              segmentOf(batchOfPairs(50, mapOfMany("k", 61, ""))),
		"a flag of 2":                   plainFrame("\x32\x01\x01a\x02\x00"),
		"a Value where Gone":            plainFrame("\x32\x01\x01a\x01\x01x"),
		"a longer form of the Stamp":    plainFrame("\xb2\x00\x00"),
		"a longer form of the length":   longer(segmentOf(batchOf(50)), 0),
		"bytes up to MaxText":           right + letters(20000-len(right)),
		"bytes up to MaxText and one":   right + letters(20001-len(right)),
		"frames past MaxText":           strings.Repeat(right, 2000),
		"a record past MaxRecord":       plainFrame(plainBatchText(batchOf(50)) + letters(9000)),
		"a manifest":                    plainManifestText(ordinary()),
		"a hint":                        plainHint(spots(spot("a", 1, 1, 1))),
		"the frame of another checksum": right[:1] + turned(right[1:5], 0, 1) + right[5:],
	}
	for at := range len(right) {
		texts[fmt.Sprint("torn at ", at)] = right[:at]
		for _, by := range []int{1, 128, 255} {
			texts[fmt.Sprint("byte ", at, " turned by ", by)] = turned(right, at, by)
		}
	}
	return texts
}

func TestTextsThatAreNotInstalled(t *testing.T) {
	for _, d := range []impl.Disk{segsDisk(""), segsDisk(segmentOf(batchOf(50, set("k", "v")))), segsDisk(manyKeys("k", 3), segmentOfSize(600))} {
		s := opened(t, "a shelf", d)
		wantMade(t, "the right one", d, s, installOf(segmentOf(batchOf(50, set("a", "one"), gone("b"))), 50, 2, 1))
		for why, text := range notOneBatch() {
			m := installOf(text, 50, 2, 1)
			wantRefused(t, why, d, s, m)
			if len(text) < 20000 {
				wantAsked(t, why, d, s, m)
				wantAsked(t, why+", base 0", d, s, installOf(text, 0, 2, 1))
				wantAsked(t, why+", base 1", d, s, installOf(text, 1, 2, 1))
			}
		}
		for why, b := range wrongBatches() {
			if b.Stamp >= 0 && b.Stamp < 1000000 {
				wantRefused(t, why, d, s, installOfBatch(b, 2, 1))
			}
		}
		for _, base := range []int{-1, 100001, math.MinInt, math.MaxInt} {
			wantRefused(t, "a base that is none", d, s, installOf("", base, 2, 1))
			wantRefused(t, "a base that is none", d, s, installOf(segmentOf(batchOf(50)), base, 2, 1))
		}
	}
}

// The map is what the batch puts; what it takes away was never there.
func TestRightBatchesAreInstalled(t *testing.T) {
	for why, b := range rightBatches() {
		for _, d := range []impl.Disk{segsDisk(""), segsDisk(manyKeys("k", 60)), segsDisk(segmentOf(batchOf(0, set("b", "old"), set("old", ""))), "")} {
			s := opened(t, why, d)
			if b.Stamp < s.Stamp {
				continue
			}
			want, _ := plainMapDo(nil, b)
			behind, then := wantMergedMap(t, why, d, s, installOfBatch(b, 9, 2, 3), want)
			if b.Stamp > 0 {
				wantSnap(t, why, behind, then, segmentOf(b))
			} else {
				wantNoSnap(t, why, behind, then)
			}
		}
	}
}

func TestRightMapsAreMerged(t *testing.T) {
	for why, m := range rightMaps() {
		texts := make([]string, 8)
		for i, p := range m {
			texts[i%8] += segmentOf(batchOf(1, set(p.Key, p.Value)))
		}
		for _, d := range []impl.Disk{segsDisk(segmentOf(batchOfPairs(1, m))), segsDisk(texts...)} {
			s := opened(t, why, d)
			behind, then := wantMergedMap(t, why, d, s, mergeOf(s.Stamp, 1, 1), m)
			if s.Stamp > 0 {
				wantSnap(t, why, behind, then, mergedSegment(m, 1))
			}
		}
	}
}

// Keys that stand in many segments, or that are gone in a later one.
func TestMapsOfManySegments(t *testing.T) {
	for n := 2; n <= 8; n++ {
		texts := make([]string, n)
		var m []impl.Pair
		for i := range texts {
			texts[i] = segmentOf(batchOf(i, set("all", fmt.Sprint("in ", i)), set(fmt.Sprint("k", n-i), fmt.Sprint("only ", i))))
			m = append(mapOf(fmt.Sprint("k", n-i), fmt.Sprint("only ", i)), m...)
		}
		d := segsDisk(texts...)
		wantMergedMap(t, "in each", d, opened(t, "in each", d), mergeOf(n-1, 1, 1), append(mapOf("all", fmt.Sprint("in ", n-1)), m...))
		d = withFiles(d, segFile(n-1), texts[n-1]+segmentOf(batchOf(n, gone("all"))))
		wantMergedMap(t, "gone at last", d, opened(t, "gone at last", d), mergeOf(n, 1, 1), m)
		d = segsDisk(append(slices.Repeat([]string{""}, n-1), texts[0])...)
		wantMergedMap(t, "in the last", d, opened(t, "in the last", d), mergeOf(0, 1, 1), mapOf("all", "in 0", fmt.Sprint("k", n), "only 0"))
	}
	d := segsDisk(manyKeys("k", 60), manyKeys("l", 30), keysGone("k", 60))
	wantMergedMap(t, "too many between", d, opened(t, "too many between", d), mergeOf(1, 1, 1), mapOfMany("l", 30, "v"))
}

func TestMergesOfNoPairs(t *testing.T) {
	for why, d := range map[string]impl.Disk{
		"formatted":     segsDisk(""),
		"no changes":    segsDisk(segmentOf(batchOf(3))),
		"all gone":      segsDisk(manyKeys("k", 60), keysGone("k", 60)),
		"empty ones":    segsDisk("", "", "", "", "", "", "", ""),
		"gone from one": segsDisk(segmentOf(batchOf(2, gone("never")))),
	} {
		s := opened(t, why, d)
		behind, then := wantMergedMap(t, why, d, s, mergeOf(s.Stamp, 2, 1), nil)
		if text, _ := impl.FileAt(behind, segFile(s.Man.Next)); text != segmentOf(batchOf(s.Stamp)) {
			t.Errorf("%s: the segment is %q", why, text)
		}
		if s.Stamp > 0 {
			wantSnap(t, why, behind, then, segmentOf(batchOf(s.Stamp)))
		} else {
			wantNoSnap(t, why, behind, then)
		}
		wantMergedMap(t, why, behind, then, mergeOf(s.Stamp, 3, 1), nil)
		wantMergedMap(t, why, d, s, installOfBatch(batchOf(7), 2, 1), nil)
		wantMergedMap(t, why, d, s, installOfBatch(batchOf(7, gone("a"), gone("b")), 2, 1), nil)
	}
}

// MaxPairs Keys and Values of all the bytes that they may have are merged.
func TestMergesUpToMaxPairs(t *testing.T) {
	var m []impl.Pair
	for i := range 60 {
		m = append(m, impl.Pair{Key: fmt.Sprintf("longkey%03d", i), Value: letters(40)})
	}
	greatest := segmentOf(batchOfPairs(100000, m))
	for why, d := range map[string]impl.Disk{
		"one":   segsDisk(greatest),
		"two":   segsDisk(segmentOf(batchOfPairs(7, m[:31])), segmentOf(batchOfPairs(100000, m[31:]))),
		"twice": segsDisk(greatest+greatest, greatest, greatest),
	} {
		s := opened(t, why, d)
		behind, then := wantMergedMap(t, why, d, s, mergeOf(100000, 100000, 1, 2, 3, 4), m)
		wantSnap(t, why, behind, then, greatest)
		other, _ := impl.FormatShelf(numbers(3))
		wantMergedMap(t, why, other, opened(t, why, other), installOf(greatest, 100000, 100000, 1, 2, 3, 4), m)
		wantNotAdded(t, why, behind, then, batchOf(100000, set("more", "")))
		if text, _ := impl.SnapText(behind, then); len(text) != 2+4+3+1+60*53 {
			t.Errorf("%s: the greatest segment has %d bytes", why, len(text))
		}
	}
}

// A segment of MaxText bytes makes way for a small one.
func TestMergesOfFullSegments(t *testing.T) {
	man := manifestOf(upTo(0, 8), 8, 0, 0, numbers(1))
	d := shelfDisk(man, slices.Repeat([]string{segmentOfSize(20000)}, 8)...)
	s := opened(t, "full", d)
	then, list, ok := impl.MergeShelf(d, s, s.Stamp, 1, numbers(1))
	behind, done := impl.PutRaws(d, list)
	if !ok || done != 11 || len(list) != 11 || len(behind.Files) != 2 {
		t.Fatalf("MergeShelf = %v, %s, %v", then, shortRaws(list), ok)
	}
	before, _ := impl.ShelfMap(d, s)
	wantOpened(t, "merged", behind, then, nil, 0)
	wantShelfMap(t, "merged", behind, then, before)
	wantAdded(t, "merged", behind, then, batchOf(9, set("k", "value")))
}

// A new segment and NameNew stand beside the others for a while.
func TestMergesUpToMaxFiles(t *testing.T) {
	for _, n := range []int{1, 2, 8} {
		for files := n + 1; files <= 30; files++ {
			d := segsDisk(slices.Repeat([]string{segmentOf(batchOf(4, set("a", "x")))}, n)...)
			d.Files = append(fullDisk(files-n-1).Files, d.Files...)
			if len(d.Files) != files || !impl.DiskOk(d) {
				t.Fatalf("the disk is %s", short(d))
			}
			s := opened(t, "other files", d)
			for _, m := range []merging{mergeOf(4, 1, 1), installOfBatch(batchOf(5, set("b", "y")), 1, 1)} {
				if files > 28 {
					wantRefused(t, "too many files", d, s, m)
					wantAsked(t, "too many files", d, s, m)
					continue
				}
				behind, _, _ := wantMade(t, "other files", d, s, m)
				if len(behind.Files) != files-n+1 {
					t.Errorf("of %d files and %d segments there are %d files behind %v", files, n, len(behind.Files), m)
				}
			}
		}
	}
}

// wantShipped has the segment of one shelf installed on another disk.
func wantShipped(t *testing.T, why string, d impl.Disk, s impl.Shelf, to impl.Disk) {
	t.Helper()
	text, told := impl.SnapText(d, s)
	there := opened(t, why, to)
	if !told || there.Stamp > s.Man.Base {
		t.Fatalf("%s: SnapText(%.200s, %s) = %.40q, %v", why, short(d), shortShelf(s), text, told)
	}
	snap, _, _ := plainFirstBatch(text)
	m, _ := plainMapDo(nil, snap)
	behind, then := wantMergedMap(t, why, to, there, installOf(text, s.Man.Base, s.Man.BaseTerm, s.Man.Conf...), m)
	if then.Man.Base != s.Man.Base || then.Man.BaseTerm != s.Man.BaseTerm || !slices.Equal(then.Man.Conf, s.Man.Conf) || then.Stamp != s.Man.Base {
		t.Errorf("%s: what is installed has %v and the Stamp %d; was %v", why, then.Man, then.Stamp, s.Man)
	}
	wantSnap(t, why+", shipped on", behind, then, text)
	if first, _ := impl.FileAt(d, segFile(s.Man.Segs[0])); first == text && len(s.Man.Segs) == 1 {
		pairs, _ := impl.ShelfMap(d, s)
		wantShelfMap(t, why+", shipped", behind, then, pairs)
	}
	if len(then.Dir) != len(m) {
		t.Errorf("%s: there are %d Keys of %d", why, len(then.Dir), len(m))
	}
}

func TestDrawnShelvesShipped(t *testing.T) {
	d := &drawing{state: 27}
	several, batches := 0, 0
	for range 60 {
		disk, s, m := drawnShelf(t, d, d.below(12))
		disk, s, _ = wantAdded(t, "a Stamp above 0", disk, s, batchOf(s.Stamp+1))
		ask := mergeOf(s.Stamp, d.below(100001), drawnSet(d, 4, 1, 5)...)
		disk, s = wantMergedMap(t, "drawn", disk, s, ask, m)
		merged, _ := impl.SnapText(disk, s)
		if merged != mergedSegment(m, s.Stamp) {
			t.Errorf("SnapText of a merged shelf is %.60q", merged)
		}
		others := []impl.Disk{segsDisk(""), segsDisk(manyKeys("k", 60)), segsDisk("", manyKeys("k", 3), segmentOfSize(600))}
		wantShipped(t, "merged", disk, s, others[d.below(3)])
		disk, s, _ = drawnMore(t, d, disk, s, m, d.below(20))
		wantSnap(t, "with more behind", disk, s, merged)
		wantShipped(t, "with more behind", disk, s, others[d.below(3)])
		first, _ := impl.FileAt(disk, segFile(s.Man.Segs[0]))
		several += min(len(s.Man.Segs)-1, 1)
		batches += min(len(first)-len(merged), 1)
	}
	if several < 15 || batches < 20 {
		t.Errorf("%d shelves have several segments, %d have batches behind the first", several, batches)
	}
}

// A shelf that lags is shipped what another one has, and takes it on.
func TestAShippedShelfGoesOn(t *testing.T) {
	d := &drawing{state: 28}
	for range 20 {
		disk, s, m := drawnShelf(t, d, 8+d.below(12))
		disk, s, _ = wantAdded(t, "a Stamp above 0", disk, s, batchOf(s.Stamp+1))
		lag, there, _ := drawnShelf(t, d, 0)
		disk, s = wantMergedMap(t, "drawn", disk, s, mergeOf(s.Stamp, 3, 1, 2), m)
		text, _ := impl.SnapText(disk, s)
		lag, there = wantMergedMap(t, "shipped", lag, there, installOf(text, s.Stamp, 3, 1, 2), m)
		for range 12 {
			b := drawnNext(d, s.Stamp, 12, 60)
			more, right := plainMapDo(m, b)
			if !right {
				continue
			}
			m = more
			disk, s, _ = wantAdded(t, "there", disk, s, b)
			lag, there, _ = wantAdded(t, "here", lag, there, b)
			wantShelfMap(t, "there", disk, s, m)
			wantShelfMap(t, "here", lag, there, m)
		}
		wantMergedMap(t, "here", lag, there, mergeOf(there.Stamp, 4, 1), m)
	}
}

// What stands behind the first batch, in its segment or in others, is not
// shipped.
func TestSnapTextIsCutBehindTheFirstBatch(t *testing.T) {
	first := segmentOf(batchOf(4, set("a", "one"), set("b", "two")))
	more := segmentOf(batchOf(5, set("a", "other"), gone("b")))
	same := segmentOf(batchOf(4, set("c", "three")))
	for why, texts := range map[string][]string{
		"alone":                    {first},
		"one more":                 {first + more},
		"two more":                 {first + more + more},
		"one more, the same Stamp": {first + same},
		"the same one again":       {first + first},
		"an empty segment":         {first, ""},
		"a segment more":           {first, more},
		"both":                     {first + more, more + same},
		"MaxSegs":                  {first + more, "", more, "", first, same, "", more},
	} {
		man := manifestOf(upTo(6, len(texts)), 20, 4, 3, numbers(2, 3))
		d := shelfDisk(man, texts...)
		s := opened(t, why, d)
		wantSnap(t, why, d, s, first)
		wantShipped(t, why, d, s, segsDisk(""))
		for n := range 12 {
			last := len(texts) - 1
			torn := withFiles(d, segFile(man.Segs[last]), texts[last]+more[:n])
			wantSnap(t, why+", torn behind", torn, s, first)
		}
	}
}

func TestShelvesWithoutASnapText(t *testing.T) {
	at4 := segmentOf(batchOf(4, set("a", "one")))
	for why, c := range map[string]struct {
		base  int
		texts []string
	}{
		"Base 0, formatted":               {0, []string{""}},
		"Base 0, and a batch of it":       {0, []string{segmentOf(batchOf(0, set("a", "one")))}},
		"Base 0, and a batch":             {0, []string{at4}},
		"an empty segment":                {4, []string{""}},
		"an empty first segment":          {4, []string{"", at4}},
		"Base above the batch's":          {5, []string{at4}},
		"Base above, another one of it":   {5, []string{at4 + segmentOf(batchOf(5))}},
		"Base above, a segment of it":     {5, []string{at4, segmentOf(batchOf(5))}},
		"Base below the batch's":          {3, []string{at4}},
		"Base below, another one of it":   {3, []string{at4 + segmentOf(batchOf(3))}},
		"no batch, but bytes":             {4, []string{"torn"}},
		"no batch, but a frame":           {4, []string{plainFrame("no batch")}},
		"no batch ahead of one":           {4, []string{plainFrame("no batch") + at4}},
		"a batch of Base that is torn":    {4, []string{at4[:len(at4)-1]}},
		"a batch with a byte turned":      {4, []string{turned(at4, 6, 1)}},
		"a byte ahead":                    {4, []string{"\x00" + at4}},
		"MaxIndex, and none of it":        {100000, []string{at4}},
		"a batch of Base that is no such": {4, []string{plainFrame(plainBatchText(batchOf(4)) + "x")}},
	} {
		man := manifestOf(upTo(2, len(c.texts)), 20, c.base, 3, numbers(2, 3))
		d := shelfDisk(man, c.texts...)
		s, _, code := impl.OpenShelf(d)
		if code != 0 {
			t.Fatalf("%s: the code is %d", why, code)
		}
		wantNoSnap(t, why, d, s)
		wantSnapAsked(t, why, d, s)
	}
	for _, base := range []int{1, 2, 127, 128, 99999, 100000} {
		d := shelfDisk(manifestOf(numbers(2), 3, base, 0, numbers(4)), segmentOf(batchOf(base)))
		wantSnap(t, "a Base", d, opened(t, "a Base", d), segmentOf(batchOf(base)))
	}
	wantNoSnap(t, "nothing at all", impl.Disk{}, impl.Shelf{})
}

// Each of these is merged, installed and shipped as the plain rules say.
func TestDrawnDisksSpoiledAndMerged(t *testing.T) {
	d := &drawing{state: 29}
	made, refused, told := 0, 0, 0
	for range 40 {
		disk, s, m := drawnShelf(t, d, d.below(10))
		if d.below(2) == 0 {
			disk, s = wantMergedMap(t, "drawn", disk, s, mergeOf(s.Stamp, 1, 1), m)
			disk, s, _ = drawnMore(t, d, disk, s, m, d.below(8))
		}
		for range 16 {
			other := spoiledDisk(d, disk)
			now, _, _ := impl.OpenShelf(other)
			for _, shelf := range []impl.Shelf{s, now} {
				b := drawnNext(d, shelf.Stamp, 8, 60)
				for _, ask := range []merging{
					mergeOf(shelf.Stamp-d.below(4)/3, d.below(9)-1, drawnSet(d, 4, 1, 5)...),
					installOf(segmentOf(b), b.Stamp+d.below(4)/3, d.below(9)-1, drawnSet(d, 4, 1, 5)...),
				} {
					if _, _, list := wantAsked(t, "spoiled", other, shelf, ask); list != nil {
						made++
					} else {
						refused++
					}
				}
				wantSnapAsked(t, "spoiled", other, shelf)
				if _, ok := impl.SnapText(other, shelf); ok {
					told++
				}
			}
		}
	}
	if made < 200 || refused < 600 || told < 100 {
		t.Errorf("%d were made, %d refused, %d texts told", made, refused, told)
	}
}

// mergesToKeep are asked for, made and refused, with room behind their confs.
func mergesToKeep(text string, stamp int) []merging {
	conf := append(make([]int, 0, 9), 1, 2, 88)[:2]
	return []merging{
		{base: stamp, term: 2, conf: conf},
		{base: stamp - 1, term: 2, conf: conf},
		{base: stamp, term: -1, conf: conf},
		{base: stamp, term: 2, conf: conf[:0]},
		{install: true, text: text, base: 50, term: 2, conf: conf},
		{install: true, text: text, base: 49, term: 2, conf: conf},
		{install: true, text: text, base: 50, term: 100001, conf: conf},
		{install: true, text: text + "x", base: 50, term: 2, conf: conf},
	}
}

func TestArgumentsOfMergesStay(t *testing.T) {
	text := segmentOf(batchOf(50, set("a", "new"), gone("k00")))
	clean := shelfDisk(manifestOf(numbers(3, 5), 7, 1, 1, numbers(1, 4)), manyKeys("k", 5)+segmentOf(batchOf(6)), segmentOfSize(100))
	shelf := opened(t, "clean", clean)
	made := 0
	for _, disk := range []impl.Disk{clean, withFiles(clean, "m+", "", "g9", "x"), withoutFile(clean, "g5")} {
		d, s := shelfWithRoom(disk, shelf)
		was := roomOf(d, s, impl.Batch{})
		for _, m := range mergesToKeep(text, s.Stamp) {
			if _, _, ok := m.ask(d, s); ok {
				made++
			}
			m.ask(d, impl.Shelf{})
			impl.SnapText(d, s)
			if now := roomOf(d, s, impl.Batch{}); now != was || !slices.Equal(m.conf[:3], numbers(1, 2, 88)) {
				t.Errorf("%v: an argument is another now: %s, %v; was %s", m, now, m.conf[:3], was)
			}
		}
	}
	if made != 2 {
		t.Errorf("%d were made", made)
	}
}

func TestTextsOfMergesAreNewMemory(t *testing.T) {
	first := segmentOf(batchOf(4, set("akey", "a first value"), set("bkey", "")))
	for _, texts := range [][]string{{first}, {first, manyKeys("k", 5)}, {first, "", segmentOfSize(300)}} {
		d, words := newDisk(shelfDisk(manifestOf(upTo(3, len(texts)), 9, 4, 1, numbers(1, 4)), texts...))
		s := opened(t, "clean", d)
		words = append(words, spotTexts(s.Dir)...)
		snap, ok := impl.SnapText(d, s)
		wantOwn(t, "SnapText", []string{snap}, words)
		wantOwn(t, "SnapText", words, []string{snap})
		text := strings.Clone(segmentOf(batchOf(50, set("newkey", "a new value"))))
		for _, m := range []merging{mergeOf(s.Stamp, 2, 1), installOf(text, 50, 2, 1), installOf(snap, 4, 2, 1)} {
			then, raws, made := m.ask(d, s)
			handed := append(slices.Clone(words), m.text)
			wantOwn(t, m.String(), append(rawTexts(raws), spotTexts(then.Dir)...), handed)
			wantOwn(t, m.String()+": its Spots", spotTexts(then.Dir), rawTexts(raws))
			if made != (m.base >= s.Stamp) || made && len(then.Dir) == 0 || !ok {
				t.Errorf("%v = %v, %v; SnapText is %v", m, then, made, ok)
			}
		}
	}
}

func TestListsOfMergesAreNewMemory(t *testing.T) {
	clean := shelfDisk(manifestOf(numbers(3, 5), 7, 1, 1, numbers(1, 4)), manyKeys("k", 5)+segmentOf(batchOf(6)), segmentOfSize(100))
	d, s := shelfWithRoom(clean, opened(t, "clean", clean))
	was := roomOf(d, s, impl.Batch{})
	conf := append(make([]int, 0, 9), 1, 2, 88)[:2]
	for range 2 {
		for _, m := range []merging{
			{base: 6, term: 2, conf: conf},
			{install: true, text: segmentOf(batchOf(50, set("a", "new"))), base: 50, term: 2, conf: conf},
		} {
			then, raws, ok := m.ask(d, s)
			if !ok || !slices.Equal(then.Man.Conf, conf) {
				t.Errorf("%v = %v, %v", m, then, ok)
			}
			wantListsApart(t, m.String(), then, raws)
			if roomOf(d, s, impl.Batch{}) != was || !slices.Equal(conf[:3], numbers(1, 2, 88)) {
				t.Error("what is answered is memory of an argument")
			}
			behind, again, _ := wantMade(t, "once more", d, s, m)
			overwriteShelf(again)
			wantOpen(t, "once more", behind)
		}
	}
}

// Empty lists and nil are the same value.
func TestEmptyListsOfMerges(t *testing.T) {
	d, _ := impl.FormatShelf(numbers(1))
	s := opened(t, "formatted", d)
	for _, dir := range [][]impl.Spot{nil, {}, manySpots(3)[:0]} {
		s.Dir = dir
		wantMade(t, "an empty list", d, s, mergeOf(0, 0, 1))
		wantMade(t, "an empty list", d, s, installOfBatch(batchOf(0), 0, 1))
		wantNoSnap(t, "an empty list", d, s)
		for _, conf := range [][]int{nil, {}, numbers(1)[:0]} {
			wantRefused(t, "an empty conf", d, s, mergeOf(0, 0, conf...))
			wantRefused(t, "an empty conf", d, s, installOf(segmentOf(batchOf(0)), 0, 0, conf...))
		}
	}
}

// manySegments has MaxSegs segments, whose Keys go to and fro between them.
func manySegments() impl.Disk {
	texts := make([]string, 8)
	for i := range 56 {
		texts[i*5%8] += segmentOf(batchOf(i, set("all", fmt.Sprint(i)), set(fmt.Sprintf("k%02d", i), letters(i%41))))
	}
	return segsDisk(texts...)
}

// What is told does not hang on which goroutine comes first.
func TestMergesAreToldTheSameEachTime(t *testing.T) {
	d := manySegments()
	s := opened(t, "many", d)
	m := mergeOf(s.Stamp, 3, 1, 2)
	want, list, ok := plainAsk(d, s, m)
	if !ok || len(want.Dir) != 57 {
		t.Fatalf("the merge is %v, %v", want, ok)
	}
	for range 300 {
		got, raws, made := m.ask(d, s)
		if !made || !sameShelf(got, want) || !slices.Equal(raws, list) {
			t.Fatalf("%v = %s, %s, %v; want %s, %s", m, shortShelf(got), shortRaws(raws), made, shortShelf(want), shortRaws(list))
		}
	}
}

func TestManyMergesAtOnce(t *testing.T) {
	var all sync.WaitGroup
	d := manySegments()
	s := opened(t, "many", d)
	pairs, _ := impl.ShelfMap(d, s)
	for range 8 {
		all.Add(1)
		go func() {
			defer all.Done()
			for range 10 {
				behind, then, list := wantAsked(t, "at once", d, s, mergeOf(s.Stamp, 3, 1, 2))
				if m, ok := impl.ShelfMap(behind, then); !ok || list == nil || !slices.Equal(m, pairs) {
					t.Errorf("at once: ShelfMap = %v, %v", m, ok)
				}
				text, _ := impl.SnapText(behind, then)
				if _, _, ok := impl.InstallShelf(d, s, text, s.Stamp, 3, numbers(1)); !ok {
					t.Error("at once: the text is not installed")
				}
			}
		}()
	}
	all.Wait()
}
