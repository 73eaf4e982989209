package tests

import (
	"fmt"
	"math"
	"slices"
	"strings"
	"sync"
	"testing"

	"loop.example/g00103/impl"
)

func sameShelf(a, b impl.Shelf) bool {
	return sameManifest(a.Man, b.Man) && slices.Equal(a.Dir, b.Dir) && a.Stamp == b.Stamp
}

func noShelf(s impl.Shelf) bool { return sameShelf(s, impl.Shelf{}) }

func segFile(seg int) string { return fmt.Sprint("g", seg) }

// shortRaws tells raw writes without the whole of their long texts.
func shortRaws(list []impl.Raw) string {
	var b strings.Builder
	for _, r := range list {
		fmt.Fprintf(&b, "[%d %q %q %.20q of %d]", r.Kind, r.Name, r.To, r.Text, len(r.Text))
	}
	return b.String()
}

// sortedDisk makes a right disk of names and texts in turn, in any order.
func sortedDisk(words ...string) impl.Disk {
	d := diskOf(words...)
	slices.SortFunc(d.Files, func(a, b impl.File) int { return strings.Compare(a.Name, b.Name) })
	return d
}

// withFiles is d with these files more, or with other texts.
func withFiles(d impl.Disk, words ...string) impl.Disk {
	texts := map[string]string{}
	for _, f := range append(slices.Clone(d.Files), diskOf(words...).Files...) {
		texts[f.Name] = f.Text
	}
	var all []string
	for name, text := range texts {
		all = append(all, name, text)
	}
	return sortedDisk(all...)
}

func withoutFile(d impl.Disk, name string) impl.Disk {
	return impl.Disk{Files: slices.DeleteFunc(slices.Clone(d.Files), func(f impl.File) bool { return f.Name == name })}
}

// shelfDisk has this manifest, and these texts as its segments, in order.
func shelfDisk(m impl.Manifest, texts ...string) impl.Disk {
	words := []string{"m", plainManifestText(m)}
	for i, text := range texts {
		words = append(words, segFile(m.Segs[i]), text)
	}
	return sortedDisk(words...)
}

// segsDisk is a shelf of the segments 0, 1 and so on.
func segsDisk(texts ...string) impl.Disk {
	n := len(texts)
	return shelfDisk(manifestOf(upTo(0, n), n, 0, 0, numbers(1)), texts...)
}

// segmentOfSize is a segment of batches that has n bytes: none, or 11 and more.
func segmentOfSize(n int) string {
	text := ""
	for len(text) < n {
		more := min(n-len(text), 51)
		if rest := n - len(text) - more; rest > 0 && rest < 11 {
			more -= 11
		}
		text += segmentOf(batchOf(1, set("k", letters(more-11))))
	}
	return text
}

// plainOpen is the document's rule of OpenShelf, code by code.
func plainOpen(d impl.Disk) (impl.Shelf, []impl.Raw, int) {
	if !impl.DiskOk(d) {
		return impl.Shelf{}, nil, 1
	}
	texts := map[string]string{}
	for _, f := range d.Files {
		texts[f.Name] = f.Text
	}
	man, ok := plainReadManifest(texts["m"])
	if !ok {
		return impl.Shelf{}, nil, 2
	}
	for _, seg := range man.Segs {
		if _, there := texts[segFile(seg)]; !there {
			return impl.Shelf{}, nil, 3
		}
	}
	s := impl.Shelf{Man: man, Stamp: man.Base}
	var all []impl.Spot
	var torn []impl.Raw
	for i, seg := range man.Segs {
		text := texts[segFile(seg)]
		list, batches, stamp := plainScan(text, seg)
		all = append(all, list...)
		s.Stamp = max(s.Stamp, stamp)
		if whole := plainFrames(batches...); whole != text {
			torn = append(torn, put(segFile(seg), whole))
			ok = ok && i == len(man.Segs)-1
		}
	}
	dir, right := plainDirMore(nil, all)
	if !ok || !right {
		return impl.Shelf{}, nil, 4
	}
	s.Dir = dir
	return s, append(plainDrops(d, man.Segs), torn...), 0
}

// plainDrops holds each Name that may be one against every SegName.
func plainDrops(d impl.Disk, segs []int) []impl.Raw {
	var list []impl.Raw
	for _, f := range d.Files {
		if f.Name == "m+" {
			list = append(list, drop("m+"))
		}
	}
	for _, f := range d.Files {
		if !strings.HasPrefix(f.Name, "g") {
			continue
		}
		for seg := range 1000 {
			if f.Name == segFile(seg) && !slices.Contains(segs, seg) {
				list = append(list, drop(f.Name))
			}
		}
	}
	return list
}

// plainShelfMap cuts each Value out of its file.
func plainShelfMap(d impl.Disk, s impl.Shelf) ([]impl.Pair, bool) {
	right := impl.DiskOk(d) && plainDirOk(s.Dir)
	var m []impl.Pair
	for _, spot := range s.Dir {
		at := slices.IndexFunc(d.Files, func(f impl.File) bool { return f.Name == segFile(spot.Seg) })
		if !right || at < 0 || len(d.Files[at].Text) < spot.At+spot.Size {
			return nil, false
		}
		m = append(m, impl.Pair{Key: spot.Key, Value: d.Files[at].Text[spot.At:][:spot.Size]})
	}
	return m, right
}

// plainAdd makes the directory of the one that is there and the frame's own
// Spots, without looking at the disk that comes.
func plainAdd(d impl.Disk, s impl.Shelf, b impl.Batch) (impl.Shelf, []impl.Raw, bool) {
	now, cleaning, code := plainOpen(d)
	if code != 0 || len(cleaning) > 0 || !sameShelf(now, s) || !plainBatchOk(b) || b.Stamp < s.Stamp {
		return impl.Shelf{}, nil, false
	}
	frame := plainFrame(plainBatchText(b))
	man := manifestOf(slices.Clone(s.Man.Segs), s.Man.Next, s.Man.Base, s.Man.BaseTerm, s.Man.Conf)
	seg := man.Segs[len(man.Segs)-1]
	ahead, _ := impl.FileAt(d, segFile(seg))
	list := []impl.Raw{add(segFile(seg), frame)}
	if len(ahead) > 499 && len(man.Segs) < 8 && man.Next < 1000 {
		seg, ahead = man.Next, ""
		man.Segs = append(man.Segs, seg)
		man.Next = seg + 1
		list = []impl.Raw{put(segFile(seg), frame), put("m+", plainManifestText(man)), move("m+", "m")}
	}
	fresh, _, _ := plainScan(frame, seg)
	for i := range fresh {
		if fresh[i].Size >= 0 {
			fresh[i].At += len(ahead)
		}
	}
	dir, ok := plainDirMore(s.Dir, fresh)
	for _, r := range list {
		if ok {
			d, ok = plainDo(d, r)
		}
	}
	if !ok {
		return impl.Shelf{}, nil, false
	}
	return impl.Shelf{Man: man, Dir: dir, Stamp: b.Stamp}, list, true
}

func wantOpened(t *testing.T, why string, d impl.Disk, s impl.Shelf, list []impl.Raw, code int) {
	t.Helper()
	got, raws, was := impl.OpenShelf(d)
	if was != code || !sameShelf(got, s) || !slices.Equal(raws, list) {
		t.Errorf("%s: OpenShelf(%.200s) = %.200v, %s, %d; want %.200v, %s, %d", why, short(d), got, shortRaws(raws), was, s, shortRaws(list), code)
	}
}

func wantOpen(t *testing.T, why string, d impl.Disk) {
	t.Helper()
	s, list, code := plainOpen(d)
	wantOpened(t, why, d, s, list, code)
}

func wantCode(t *testing.T, why string, d impl.Disk, code int) {
	t.Helper()
	wantOpened(t, why, d, impl.Shelf{}, nil, code)
	wantOpen(t, why, d)
	if s, list, ok := impl.AddBatch(d, impl.Shelf{}, impl.Batch{}); ok || !noShelf(s) || len(list) > 0 {
		t.Errorf("%s: a batch is added to a disk of the code %d", why, code)
	}
}

// opened asks for a shelf that needs no raw writes.
func opened(t *testing.T, why string, d impl.Disk) impl.Shelf {
	t.Helper()
	s, list, code := impl.OpenShelf(d)
	if code != 0 || len(list) > 0 {
		t.Errorf("%s: OpenShelf(%.200s) has %s and the code %d", why, short(d), shortRaws(list), code)
	}
	return s
}

func wantShelfMap(t *testing.T, why string, d impl.Disk, s impl.Shelf, want []impl.Pair) {
	t.Helper()
	if m, ok := impl.ShelfMap(d, s); !ok || !slices.Equal(m, want) {
		t.Errorf("%s: ShelfMap(%.200s, %.200v) = %.200v, %v; want %.200v", why, short(d), s, m, ok, want)
	}
}

func wantNoShelfMap(t *testing.T, why string, d impl.Disk, s impl.Shelf) {
	t.Helper()
	if m, ok := impl.ShelfMap(d, s); ok || len(m) > 0 {
		t.Errorf("%s: ShelfMap(%.200s, %.200v) = %.200v, %v; want none", why, short(d), s, m, ok)
	}
}

// wantAdded holds AddBatch against the plain rule, and answers the disk and
// the shelf behind it, which are the same when it is refused.
func wantAdded(t *testing.T, why string, d impl.Disk, s impl.Shelf, b impl.Batch) (impl.Disk, impl.Shelf, []impl.Raw) {
	t.Helper()
	want, list, right := plainAdd(d, s, b)
	got, raws, ok := impl.AddBatch(d, s, b)
	if ok != right || !sameShelf(got, want) || !slices.Equal(raws, list) {
		t.Errorf("%s: AddBatch(%.200s, %.200v, %.100v) = %.200v, %s, %v; want %.200v, %s, %v",
			why, short(d), s, b, got, shortRaws(raws), ok, want, shortRaws(list), right)
	}
	if !right {
		return d, s, nil
	}
	behind, done := impl.PutRaws(d, list)
	if done != len(list) {
		t.Errorf("%s: %d of %d raw writes are done", why, done, len(list))
	}
	wantOpened(t, why+", opened again", behind, want, nil, 0)
	return behind, want, list
}

func wantNotAdded(t *testing.T, why string, d impl.Disk, s impl.Shelf, b impl.Batch) {
	t.Helper()
	if got, list, ok := impl.AddBatch(d, s, b); ok || !noShelf(got) || len(list) > 0 {
		t.Errorf("%s: AddBatch(%.200s, %.200v, %.100v) = %.200v, %s, %v; want none", why, short(d), s, b, got, shortRaws(list), ok)
	}
}

func TestShelfConstants(t *testing.T) {
	if impl.SegRoom != 500 || impl.NameManifest != "m" || impl.NameNew != "m+" {
		t.Error("a constant of shelves is not the document's")
	}
}

func TestFormatShelf(t *testing.T) {
	for set := 1; set < 16; set++ {
		var conf []int
		for node := 1; node <= 4; node++ {
			if set>>(node-1)%2 == 1 {
				conf = append(conf, node)
			}
		}
		man := manifestOf(numbers(0), 1, 0, 0, conf)
		want := diskOf("g0", "", "m", plainManifestText(man))
		d, ok := impl.FormatShelf(conf)
		if !ok || !sameDisk(d, want) {
			t.Errorf("FormatShelf(%v) = %s, %v; want %s", conf, short(d), ok, short(want))
		}
		s := impl.Shelf{Man: man}
		wantOpened(t, "formatted", d, s, nil, 0)
		wantShelfMap(t, "formatted", d, s, nil)
	}
	for why, m := range wrongManifests() {
		if !plainConfOk(m.Conf) {
			if d, ok := impl.FormatShelf(m.Conf); ok || len(d.Files) > 0 {
				t.Errorf("%s: FormatShelf(%v) = %s, %v", why, m.Conf, short(d), ok)
			}
		}
	}
	for _, conf := range listsOf(5, 0, 1, 2, 4, 5) {
		if d, ok := impl.FormatShelf(conf); ok != plainConfOk(conf) || !ok && len(d.Files) > 0 {
			t.Errorf("FormatShelf(%v) = %s, %v", conf, short(d), ok)
		}
	}
}

func TestShelfBytes(t *testing.T) {
	d, _ := impl.FormatShelf(numbers(2, 3))
	if len(d.Files) != 2 || d.Files[1].Text[:8] != "\x01\x00\x01\x00\x00\x02\x02\x03" || len(d.Files[1].Text) != 12 {
		t.Fatalf("FormatShelf = %s", short(d))
	}
	s, list, ok := impl.AddBatch(d, opened(t, "formatted", d), batchOf(4, set("a", "xy"), gone("b")))
	want := impl.Shelf{Man: manifestOf(numbers(0), 1, 0, 0, numbers(2, 3)), Dir: spots(spot("a", 0, 11, 2)), Stamp: 4}
	if !ok || !sameShelf(s, want) || len(list) != 1 || list[0].Kind != 2 || list[0].Name != "g0" || list[0].To != "" {
		t.Fatalf("AddBatch = %v, %s, %v; want %v", s, shortRaws(list), ok, want)
	}
	if text := list[0].Text; text[:1] != "\x0c" || text[5:] != "\x04\x02\x01a\x00\x02xy\x01b\x01\x00" {
		t.Errorf("the frame is %q", text)
	}
	d, _ = impl.PutRaws(d, list)
	wantShelfMap(t, "one batch", d, s, mapOf("a", "xy"))
	s, list, ok = impl.AddBatch(d, s, batchOf(4, set("b", "z")))
	want.Dir = spots(spot("a", 0, 11, 2), spot("b", 0, 28, 1))
	if !ok || !sameShelf(s, want) || len(list) != 1 {
		t.Fatalf("AddBatch = %v, %s, %v; want %v", s, shortRaws(list), ok, want)
	}
	d, _ = impl.PutRaws(d, list)
	wantShelfMap(t, "two batches", d, s, mapOf("a", "xy", "b", "z"))
}

// drawnNext is a right batch whose Stamp does not fall.
func drawnNext(d *drawing, stamp, most, keys int) impl.Batch {
	b := impl.Batch{Stamp: min(stamp+d.below(3), 100000)}
	for _, p := range drawnMap(d, keys) {
		c := set(p.Key, p.Value+d.bytes(40-len(p.Value)))
		if d.below(3) == 0 {
			c = gone(p.Key)
		}
		if len(b.Changes) < most {
			b.Changes = append(b.Changes, c)
		}
	}
	return b
}

func TestBatchesAddedAreTheMap(t *testing.T) {
	d := &drawing{state: 19}
	segs, refused := 0, 0
	for range 40 {
		disk, _ := impl.FormatShelf(drawnSet(d, 4, 1, 5))
		s := opened(t, "formatted", disk)
		var m []impl.Pair
		most, keys := []int{3, 12, 60}[d.below(3)], []int{10, 250, 1500}[d.below(3)]
		for range 30 {
			b := drawnNext(d, s.Stamp, most, keys)
			more, right := plainMapDo(m, b)
			then, now, list := wantAdded(t, "drawn", disk, s, b)
			if right != (list != nil) {
				t.Errorf("a batch to a map of %d is added: %v; the map takes it: %v", len(m), list != nil, right)
			}
			if !right {
				refused++
				wantShelfMap(t, "refused", then, now, m)
				continue
			}
			disk, s, m = then, now, more
			wantShelfMap(t, "drawn", disk, s, m)
		}
		segs += len(s.Man.Segs)
	}
	if segs < 120 || refused < 20 {
		t.Errorf("the drawn shelves have %d segments, %d batches were refused", segs, refused)
	}
}

// cutShelf opens the disk that a cut leaves, cleans it, and answers it.
func cutShelf(t *testing.T, why string, d impl.Disk, list []impl.Raw, whole, part int) (impl.Disk, impl.Shelf) {
	t.Helper()
	cut, ok := impl.CutRaws(d, list, whole, part)
	s, cleaning, code := impl.OpenShelf(cut)
	clean, done := impl.PutRaws(cut, cleaning)
	if !ok || code != 0 || done != len(cleaning) {
		t.Errorf("%s: cut at %d and %d bytes: %v, the code %d, %d of %d cleaned", why, whole, part, ok, code, done, len(cleaning))
	}
	wantOpened(t, why+", cleaned", clean, s, nil, 0)
	return clean, s
}

// wantCutAnywhere asks for the shelf ahead, on the disk that was, up to the
// last byte of a RawAdd or up to the move; then for the one behind.
func wantCutAnywhere(t *testing.T, why string, d impl.Disk, s impl.Shelf, b impl.Batch) {
	t.Helper()
	then, list, ok := impl.AddBatch(d, s, b)
	behind, _ := impl.PutRaws(d, list)
	before, _ := impl.ShelfMap(d, s)
	after, right := plainMapDo(before, b)
	if !ok || !right {
		t.Fatalf("%s: the batch is not added", why)
	}
	for whole := range len(list) + 1 {
		most := 0
		if whole < len(list) {
			most = len(list[whole].Text)
		}
		for part := range most + 1 {
			clean, now := cutShelf(t, why, d, list, whole, part)
			if whole == len(list) || len(list) == 1 && part == most {
				wantShelfMap(t, why+", behind", clean, now, after)
				if !sameShelf(now, then) || !sameDisk(clean, behind) {
					t.Errorf("%s: cut at %d and %d bytes it is not the one behind", why, whole, part)
				}
				continue
			}
			wantShelfMap(t, why+", ahead", clean, now, before)
			if !sameShelf(now, s) || !sameDisk(clean, d) {
				t.Errorf("%s: cut at %d and %d bytes it is not the one ahead", why, whole, part)
			}
		}
	}
}

func TestRawWritesOfAddBatchCutAnywhere(t *testing.T) {
	d := &drawing{state: 20}
	begun := 0
	for i := range 8 {
		disk, _ := impl.FormatShelf(numbers(1, 2, 3))
		if i%2 == 1 {
			disk = withFiles(disk, "log", "a log", "vote", "a vote", "g01", "no segment")
		}
		s := opened(t, "formatted", disk)
		for range 25 {
			b := drawnNext(d, s.Stamp, 1+d.below(8), 60)
			if _, _, ok := impl.AddBatch(disk, s, b); !ok {
				continue
			}
			wantCutAnywhere(t, "drawn", disk, s, b)
			then, now, list := wantAdded(t, "drawn", disk, s, b)
			disk, s = then, now
			begun += len(list) / 3
		}
	}
	if begun < 16 {
		t.Errorf("%d segments have begun", begun)
	}
}

func TestSmallAndGreatBatchesCutAnywhere(t *testing.T) {
	many := batchOfPairs(9, mapOfMany("k", 60, letters(40)))
	for why, text := range map[string]string{
		"no bytes": "", "SegRoom - 1": segmentOfSize(499), "SegRoom": segmentOfSize(500), "SegRoom + 1": segmentOfSize(501),
	} {
		d := segsDisk(segmentOf(batchOf(1, set("a", "one"), set("k", "ahead"))), text)
		s := opened(t, why, d)
		wantCutAnywhere(t, why+", no changes", d, s, batchOf(1))
		wantCutAnywhere(t, why+", one change", d, s, batchOf(2, set("k", "")))
		wantCutAnywhere(t, why+", one gone", d, s, batchOf(100000, gone("a")))
		wantCutAnywhere(t, why+", many", d, s, impl.Batch{Stamp: 9, Changes: many.Changes[:58]})
	}
}

// What is cut ahead of its end can be asked for again.
func TestACutBatchIsAddedAgain(t *testing.T) {
	d := segsDisk(segmentOfSize(600))
	s := opened(t, "a great segment", d)
	b := batchOf(7, set("k", "new"), set("l", "more"))
	for _, disk := range []impl.Disk{d, segsDisk(segmentOfSize(400))} {
		s = opened(t, "ahead", disk)
		then, list, _ := impl.AddBatch(disk, s, b)
		for whole := range list {
			for part := range len(list[whole].Text) {
				clean, now := cutShelf(t, "cut", disk, list, whole, part)
				again, raws, ok := impl.AddBatch(clean, now, b)
				if !ok || !sameShelf(again, then) || !slices.Equal(raws, list) {
					t.Errorf("added again: %v, %s, %v", again, shortRaws(raws), ok)
				}
			}
		}
	}
}

// manifestFrom has n Segs from this one on, of which the last is below next.
func manifestFrom(first, n, next int) impl.Manifest {
	return manifestOf(upTo(first, n), next, 3, 2, numbers(1, 4))
}

func wantBegins(t *testing.T, man impl.Manifest, size int, begins bool) {
	t.Helper()
	var texts []string
	for range man.Segs {
		texts = append(texts, segmentOfSize(550))
	}
	last := len(texts) - 1
	texts[last] = segmentOfSize(size)
	d := shelfDisk(man, texts...)
	s := opened(t, "sized", d)
	b := batchOf(5, set("new", "value"))
	frame := plainFrame(plainBatchText(b))
	want := []impl.Raw{add(segFile(man.Segs[last]), frame)}
	then, place := man, spot("new", man.Segs[last], size+13, 5)
	if begins {
		then.Segs = append(slices.Clone(man.Segs), man.Next)
		then.Next = man.Next + 1
		place = spot("new", man.Next, 13, 5)
		want = []impl.Raw{put(segFile(man.Next), frame), put("m+", plainManifestText(then)), move("m+", "m")}
	}
	got, list, ok := impl.AddBatch(d, s, b)
	if !ok || !slices.Equal(list, want) || !sameManifest(got.Man, then) || got.Stamp != 5 {
		t.Errorf("%v, a last segment of %d bytes: AddBatch = %.200v, %s, %v; want %.200v, %s", man, size, got, shortRaws(list), ok, then, shortRaws(want))
	}
	if len(got.Dir) != len(s.Dir)+1 || got.Dir[len(got.Dir)-1] != place {
		t.Errorf("%v, a last segment of %d bytes: the directory is %v; want %v last", man, size, got.Dir, place)
	}
	wantAdded(t, "sized", d, s, b)
}

func TestWhenANewSegmentBegins(t *testing.T) {
	for _, size := range []int{0, 11, 250, 498, 499, 500, 501, 502, 999, 1000, 4000} {
		if n := len(segmentOfSize(size)); n != size {
			t.Fatalf("a segment of %d bytes has %d", size, n)
		}
		for n := 1; n <= 8; n++ {
			wantBegins(t, manifestFrom(0, n, n), size, size >= 500 && n < 8)
			wantBegins(t, manifestFrom(9, n, 300), size, size >= 500 && n < 8)
			wantBegins(t, manifestFrom(998-n, n, 998), size, size >= 500 && n < 8)
			wantBegins(t, manifestFrom(999-n, n, 999), size, size >= 500 && n < 8)
			wantBegins(t, manifestFrom(1000-n, n, 1000), size, false)
			wantBegins(t, manifestFrom(0, n, 999), size, size >= 500 && n < 8)
			wantBegins(t, manifestFrom(0, n, 1000), size, false)
		}
	}
}

// How great the batch itself is does not count.
func TestASegmentGoesPastItsRoom(t *testing.T) {
	many := batchOfPairs(9, mapOfMany("k", 59, letters(40)))
	d := segsDisk(segmentOfSize(499))
	behind, s, list := wantAdded(t, "a great batch", d, opened(t, "one", d), many)
	if len(list) != 1 || list[0].Kind != impl.RawAdd {
		t.Errorf("a great batch has the raw writes %s", shortRaws(list))
	}
	_, _, list = wantAdded(t, "behind a great one", behind, s, batchOf(9))
	if len(list) != 3 || list[0].Name != "g1" {
		t.Errorf("behind a great batch there are the raw writes %s", shortRaws(list))
	}
}

// A shelf grows to MaxSegs segments; then the last one takes all.
func TestAShelfGrowsToMaxSegs(t *testing.T) {
	d, _ := impl.FormatShelf(numbers(1))
	s := opened(t, "formatted", d)
	for stamp := range 120 {
		d, s, _ = wantAdded(t, "growing", d, s, batchOf(stamp, set("k", letters(stamp%41)), set(fmt.Sprint("n", stamp%9), letters(40))))
	}
	sizes := []int{}
	for _, seg := range s.Man.Segs {
		text, _ := impl.FileAt(d, segFile(seg))
		sizes = append(sizes, len(text))
	}
	if !slices.Equal(s.Man.Segs, upTo(0, 8)) || s.Man.Next != 8 || slices.Min(sizes) < 500 || slices.Max(sizes[:7]) > 620 || sizes[7] < 2000 {
		t.Errorf("the shelf has the manifest %v, and segments of %v bytes", s.Man, sizes)
	}
}

func namesThatLookLikeSegments() []string {
	return []string{"g", "g00", "g01", "g007", "g-1", "g+1", "g1000", "g1001", "g9999", "G1", "gg1", "1", "g1 ", " g1", "g 1",
		"g1.", "g1\x00", "g\x001", "h1", "f1", "g1x", "gx", "g0x1", "g1_0", "g\u0661", "ga", "g+", "g1000000000", "g9999999999"}
}

func TestWhatOpenShelfCleans(t *testing.T) {
	text := segmentOf(batchOf(4, set("a", "xy"), gone("b")))
	man := manifestOf(numbers(2, 5, 30), 31, 1, 1, numbers(1))
	d := shelfDisk(man, text, "", text)
	s := impl.Shelf{Man: man, Dir: spots(spot("a", 30, 11, 2)), Stamp: 4}
	wantOpened(t, "clean", d, s, nil, 0)
	wantOpened(t, "a NameNew", withFiles(d, "m+", "any bytes"), s, []impl.Raw{drop("m+")}, 0)
	wantOpened(t, "an empty NameNew", withFiles(d, "m+", ""), s, []impl.Raw{drop("m+")}, 0)
	wantOpened(t, "a NameNew that is a manifest", withFiles(d, "m+", plainManifestText(ordinary())), s, []impl.Raw{drop("m+")}, 0)
	for seg := range 1000 {
		if !slices.Contains(man.Segs, seg) {
			wantOpened(t, "a segment", withFiles(d, segFile(seg), text), s, []impl.Raw{drop(segFile(seg))}, 0)
		}
	}
	for _, name := range namesThatLookLikeSegments() {
		wantOpened(t, "a name", withFiles(d, name, text), s, nil, 0)
	}
	for _, name := range []string{"log", "log+", "vote", "vote+", "m-", "m++", "n", "M", "M+", "mm", "m+ "} {
		wantOpened(t, "another file", withFiles(d, name, text), s, nil, 0)
	}
	for n := range len(text) {
		torn := withFiles(d, "g30", text+text[:n])
		if n > 0 {
			wantOpened(t, "torn", torn, s, []impl.Raw{put("g30", text)}, 0)
		}
	}
	wantOpened(t, "segments by their names", withFiles(d, "g3", "", "g10", "1", "g1", text, "g200", "", "g20", "", "g999", "", "g0", ""), s,
		[]impl.Raw{drop("g0"), drop("g1"), drop("g10"), drop("g20"), drop("g200"), drop("g3"), drop("g999")}, 0)
	all := withFiles(d, "m+", "", "g31", text, "g4", "", "g30", text+"torn", "log", "stays", "g05", "stays", "g1000", "stays")
	wantOpened(t, "all at once", all, s, []impl.Raw{drop("m+"), drop("g31"), drop("g4"), put("g30", text)}, 0)
	clean, _ := impl.PutRaws(all, []impl.Raw{drop("m+"), drop("g31"), drop("g4"), put("g30", text)})
	wantOpened(t, "cleaned", clean, s, nil, 0)
	if want := withFiles(d, "log", "stays", "g05", "stays", "g1000", "stays"); !sameDisk(clean, want) {
		t.Errorf("what is left is %s; want %s", short(clean), short(want))
	}
}

func TestEachSetOfThingsToClean(t *testing.T) {
	text := segmentOf(batchOf(4, set("a", "xy")))
	base := segsDisk(text, text)
	for set := range 32 {
		d := base
		var want []impl.Raw
		for at, c := range []struct {
			name, text string
			raw        impl.Raw
		}{
			{"m+", "new", drop("m+")},
			{"g10", text, drop("g10")},
			{"g2", "", drop("g2")},
			{"g999", text, drop("g999")},
			{"g1", text + "\x00", put("g1", text)},
		} {
			if set>>at%2 == 1 {
				d = withFiles(d, c.name, c.text)
				want = append(want, c.raw)
			}
		}
		s := impl.Shelf{Man: manifestOf(numbers(0, 1), 2, 0, 0, numbers(1)), Dir: spots(spot("a", 1, 11, 2)), Stamp: 4}
		wantOpened(t, "a set of things", d, s, want, 0)
		clean, done := impl.PutRaws(d, want)
		if done != len(want) || !sameDisk(clean, base) {
			t.Errorf("cleaned of %s it is %s", shortRaws(want), short(clean))
		}
		if len(want) > 0 {
			wantNotAdded(t, "not clean", d, s, batchOf(4))
		}
	}
}

// Many files go at once; as many as there may be.
func TestCleaningOfMaxFiles(t *testing.T) {
	d := segsDisk("torn")
	d = withFiles(d, "m+", "")
	var want []impl.Raw
	want = append(want, drop("m+"))
	for seg := 10; seg < 37; seg++ {
		d = withFiles(d, segFile(seg), "x")
		want = append(want, drop(segFile(seg)))
	}
	want = append(want, put("g0", ""))
	if len(d.Files) != 30 {
		t.Fatalf("there are %d files", len(d.Files))
	}
	wantOpened(t, "MaxFiles", d, impl.Shelf{Man: manifestOf(numbers(0), 1, 0, 0, numbers(1))}, want, 0)
	wantCode(t, "a file more", withFiles(d, "g99", ""), 1)
}

// bytesBehind are such as stand behind a segment's batches and are none.
func bytesBehind() map[string]string {
	right := segmentOf(batchOf(50, set("z", "never")))
	behind := map[string]string{
		"a byte":                 "x",
		"a byte 0":               "\x00",
		"a byte 128":             "\x80",
		"a torn frame":           right[:len(right)-1],
		"a frame's length":       right[:1],
		"a byte turned":          turned(right, 6, 1),
		"a sum turned":           turned(right, 2, 1),
		"a record of words":      plainFrame("no batch"),
		"a batch and a byte":     plainFrame(plainBatchText(batchOf(50)) + "\x00"),
		"a batch without an end": plainFrame(plainBatchText(batchOf(50, set("z", "x")))[:5]),
		"a Stamp too great":      plainFrame(plainBatchText(batchOf(100001))),
		"Keys that fall":         plainFrame(plainBatchText(batchOf(50, set("b", ""), set("a", "")))),
	}
	all := map[string]string{}
	for why, bytes := range behind {
		all[why] = bytes
		all[why+", and a batch"] = bytes + right
	}
	return all
}

func TestBytesBehindASegment(t *testing.T) {
	text := segmentOf(batchOf(4, set("a", "xy"), gone("b")), batchOf(2, set("c", "")))
	for why, bytes := range bytesBehind() {
		for _, ahead := range []string{"", text} {
			d := segsDisk(text, ahead+bytes)
			s := opened(t, why, segsDisk(text, ahead))
			wantOpened(t, why+", last", d, s, []impl.Raw{put("g1", ahead)}, 0)
			wantOpened(t, why+", alone", segsDisk(ahead+bytes), opened(t, why, segsDisk(ahead)), []impl.Raw{put("g0", ahead)}, 0)
			wantCode(t, why+", first", segsDisk(ahead+bytes, text), 4)
			wantCode(t, why+", between", segsDisk(text, ahead+bytes, text), 4)
			wantCode(t, why+", first of MaxSegs", segsDisk(ahead+bytes, "", "", "", "", "", "", ""), 4)
			wantCode(t, why+", last but one", segsDisk("", "", "", "", "", "", ahead+bytes, ""), 4)
			wantCode(t, why+", both", segsDisk(ahead+bytes, ahead+bytes), 4)
			wantNotAdded(t, why, d, s, batchOf(4))
		}
	}
}

// manyKeys is a segment with n Keys of this letter.
func manyKeys(letter string, n int) string {
	return segmentOf(batchOfPairs(1, mapOfMany(letter, n, "v")))
}

func keysGone(letter string, n int) string {
	return segmentOf(batchOfGone(1, mapOfMany(letter, n, "")))
}

func TestDirectoriesOfShelves(t *testing.T) {
	for why, d := range map[string]impl.Disk{
		"MaxPairs in one":         segsDisk(manyKeys("k", 60)),
		"MaxPairs in two":         segsDisk(manyKeys("k", 30), manyKeys("l", 30)),
		"MaxPairs, some twice":    segsDisk(manyKeys("k", 60), manyKeys("k", 30)),
		"a Key gone first":        segsDisk(manyKeys("k", 60)+keysGone("k", 1), manyKeys("l", 1)),
		"too many between":        segsDisk(manyKeys("k", 60), manyKeys("l", 1), keysGone("k", 1)),
		"too many between in one": segsDisk(manyKeys("k", 60) + manyKeys("l", 60) + keysGone("k", 60)),
		"too many, of the next":   segsDisk(manyKeys("k", 60)+manyKeys("l", 1), keysGone("l", 1)),
	} {
		if s := opened(t, why, d); len(s.Dir) < 60 {
			t.Errorf("%s: there are %d Keys", why, len(s.Dir))
		}
		wantOpen(t, why, d)
	}
	for why, d := range map[string]impl.Disk{
		"one more in one":        segsDisk(manyKeys("k", 60) + manyKeys("l", 1)),
		"one more in two":        segsDisk(manyKeys("k", 60), manyKeys("l", 1)),
		"one more, three":        segsDisk(manyKeys("k", 20), manyKeys("l", 20), manyKeys("m", 21)),
		"one more, torn behind":  segsDisk(manyKeys("k", 60), manyKeys("l", 1)+"torn"),
		"a Key gone, but others": segsDisk(manyKeys("k", 60), manyKeys("l", 2), keysGone("k", 1)),
		"gone ahead of it":       segsDisk(keysGone("l", 1), manyKeys("k", 60), manyKeys("l", 1)),
	} {
		wantCode(t, why, d, 4)
		wantCode(t, why+", with things to clean", withFiles(d, "m+", "", "g500", ""), 4)
	}
	wantCode(t, "the Key that is gone is cut off", segsDisk(manyKeys("k", 60), manyKeys("l", 1), keysGone("k", 1)[:10]), 4)
}

func TestCodesOfDisks(t *testing.T) {
	for why, d := range wrongDisks() {
		wantCode(t, why, d, 1)
	}
	right := segsDisk(manyKeys("k", 3), "")
	man := right.Files[2].Text
	wantCode(t, "a file too many", impl.Disk{Files: append(fullDisk(28).Files, right.Files...)}, 1)
	wantCode(t, "names that fall", diskOf("m", man, "g0", "", "g1", ""), 1)
	wantCode(t, "two manifests", diskOf("g0", "", "g1", "", "m", man, "m", man), 1)
	wantCode(t, "a name of no bytes", withFiles(right, "", ""), 1)
	wantCode(t, "a name of 13 bytes", withFiles(right, letters(13), ""), 1)
	wantCode(t, "a segment of MaxText + 1", withFiles(right, "g1", letters(20001)), 1)
	wantCode(t, "another file of MaxText + 1", withFiles(right, "log", letters(20001)), 1)
	if s, list, code := impl.OpenShelf(withFiles(right, "g1", letters(20000), letters(12), "")); code != 0 || len(s.Dir) != 3 || len(list) != 1 {
		t.Errorf("a segment of MaxText bytes, and a name of MaxName: %v, %s, %d", s, shortRaws(list), code)
	}
}

func TestCodesOfManifests(t *testing.T) {
	text := segmentOf(batchOf(4, set("a", "xy")))
	man := plainManifestText(manifestOf(numbers(0), 1, 0, 0, numbers(1)))
	wantCode(t, "no files", diskOf(), 2)
	wantCode(t, "no manifest", diskOf("g0", text), 2)
	wantCode(t, "a NameNew alone", diskOf("g0", text, "m+", man), 2)
	wantCode(t, "an empty manifest", diskOf("g0", text, "m", ""), 2)
	wantCode(t, "an empty manifest, and a NameNew", diskOf("g0", text, "m", "", "m+", man), 2)
	wantCode(t, "words", diskOf("g0", text, "m", "no manifest"), 2)
	wantCode(t, "not sealed", diskOf("g0", text, "m", man[:len(man)-4]), 2)
	wantCode(t, "a byte behind", diskOf("g0", text, "m", man+"\x00"), 2)
	wantCode(t, "another name", diskOf("M", man, "g0", text), 2)
	for at := range len(man) {
		wantCode(t, "cut", diskOf("g0", text, "m", man[:at]), 2)
		for by := 1; by < 256; by++ {
			wantOpened(t, "a byte turned", diskOf("g0", text, "m", turned(man, at, by)), impl.Shelf{}, nil, 2)
		}
	}
	for why, m := range wrongManifests() {
		if hasText(m) {
			wantCode(t, why, withFiles(diskOf("m", plainManifestText(m)), "g0", text, "g1", text, "g2", text, "g3", text), 2)
		}
	}
	for why, m := range rightManifests() {
		texts := make([]string, len(m.Segs))
		texts[len(texts)-1] = text
		d := shelfDisk(m, texts...)
		want := impl.Shelf{Man: m, Dir: spots(spot("a", m.Segs[len(m.Segs)-1], 11, 2)), Stamp: max(4, m.Base)}
		wantOpened(t, why, d, want, nil, 0)
		wantShelfMap(t, why, d, want, mapOf("a", "xy"))
	}
}

func TestCodesOfSegments(t *testing.T) {
	text := segmentOf(batchOf(4, set("a", "xy")))
	for n := 1; n <= 8; n++ {
		man := manifestOf(upTo(3, n), 40, 0, 0, numbers(1))
		d := shelfDisk(man, slices.Repeat([]string{text}, n)...)
		opened(t, "all are there", d)
		for _, seg := range man.Segs {
			wantCode(t, "not there", withoutFile(d, segFile(seg)), 3)
			wantCode(t, "only what looks like it", withFiles(withoutFile(d, segFile(seg)), "g0"+fmt.Sprint(seg), text, "G"+fmt.Sprint(seg), text), 3)
			wantCode(t, "others instead", withFiles(withoutFile(d, segFile(seg)), "g0", text, "g39", text, "g40", text), 3)
			wantCode(t, "things to clean", withFiles(withoutFile(d, segFile(seg)), "m+", plainManifestText(man)), 3)
			opened(t, "an empty one", withFiles(d, segFile(seg), ""))
		}
	}
}

// Each disk has all faults from one code on; the least counts.
func TestTheFirstCodeCounts(t *testing.T) {
	man := plainManifestText(manifestOf(upTo(0, 4), 4, 0, 0, numbers(1)))
	tooMany := manyKeys("k", 60) + manyKeys("l", 1)
	all := diskOf("g0", tooMany, "g1", "torn", "g3", tooMany+"torn", "m", man, "m+", "")
	if _, _, code := plainOpen(withFiles(all, "g2", "")); code != 4 {
		t.Fatalf("the code is %d", code)
	}
	wantCode(t, "4", withFiles(all, "g2", ""), 4)
	wantCode(t, "3 and 4", all, 3)
	wantCode(t, "3, last, and 4", withoutFile(withFiles(all, "g2", ""), "g3"), 3)
	wantCode(t, "3, first, and 4", withoutFile(withFiles(all, "g2", ""), "g0"), 3)
	wantCode(t, "2, 3 and 4", withFiles(all, "m", turned(man, 1, 1)), 2)
	wantCode(t, "no manifest, 3 and 4", withoutFile(all, "m"), 2)
	wantCode(t, "1, 3 and 4", withFiles(all, "z", letters(20001)), 1)
	wantCode(t, "1, 2, 3 and 4", withFiles(withoutFile(all, "m"), letters(13), ""), 1)
	wantCode(t, "1 and 2", diskOf("b", "", "a", ""), 1)
	wantCode(t, "1 and 4", withFiles(all, "g2", letters(20001)), 1)
	wantCode(t, "2 and 4", withFiles(withoutFile(all, "m"), "g2", ""), 2)
}

func TestStampsOfShelves(t *testing.T) {
	for _, c := range []struct {
		base   int
		stamps [][]int
		want   int
	}{
		{0, [][]int{{}}, 0},
		{0, [][]int{{0}}, 0},
		{0, [][]int{{1}}, 1},
		{5, [][]int{{}}, 5},
		{5, [][]int{{4}}, 5},
		{5, [][]int{{5}}, 5},
		{5, [][]int{{6}}, 6},
		{5, [][]int{{4, 3}, {2}}, 5},
		{5, [][]int{{9}, {6}}, 9},
		{5, [][]int{{9, 6}}, 9},
		{5, [][]int{{6}, {9}, {7}}, 9},
		{5, [][]int{{}, {}, {100000}, {}}, 100000},
		{100000, [][]int{{3}}, 100000},
		{99999, [][]int{{100000}}, 100000},
	} {
		var texts []string
		for _, list := range c.stamps {
			text := ""
			for _, stamp := range list {
				text += segmentOf(batchOf(stamp, set("k", "v")))
			}
			texts = append(texts, text)
		}
		d := shelfDisk(manifestOf(upTo(0, len(texts)), 20, c.base, 1, numbers(2)), texts...)
		s := opened(t, "stamped", d)
		if s.Stamp != c.want {
			t.Errorf("Base %d and the Stamps %v: the shelf's is %d; want %d", c.base, c.stamps, s.Stamp, c.want)
		}
		wantOpen(t, "stamped", d)
		torn := withFiles(d, segFile(len(texts)-1), texts[len(texts)-1]+segmentOf(batchOf(100000))[:8])
		if now, list, code := impl.OpenShelf(torn); !sameShelf(now, s) || len(list) != 1 || code != 0 {
			t.Errorf("with a torn Stamp behind: %v, %s, %d", now, shortRaws(list), code)
		}
		for _, stamp := range []int{c.want - 1, c.want - 2, 0, -1, math.MinInt} {
			if stamp < c.want {
				wantNotAdded(t, "a Stamp below", d, s, batchOf(stamp, set("k", "w")))
			}
		}
		for _, stamp := range []int{c.want, min(c.want+1, 100000), 100000} {
			if _, now, list := wantAdded(t, "a Stamp", d, s, batchOf(stamp, set("k", "w"))); list == nil || now.Stamp != stamp {
				t.Errorf("behind %d a batch of %d makes it %d", c.want, stamp, now.Stamp)
			}
		}
		wantNotAdded(t, "a Stamp too great", d, s, batchOf(100001))
	}
}

func TestValuesOfShelves(t *testing.T) {
	d, _ := impl.FormatShelf(numbers(1))
	s := opened(t, "formatted", d)
	for stamp, c := range []struct {
		changes []impl.Change
		want    []impl.Pair
	}{
		{nil, nil},
		{[]impl.Change{set("a", "")}, mapOf("a", "")},
		{[]impl.Change{set("b", letters(40)), set("c", "")}, mapOf("a", "", "b", letters(40), "c", "")},
		{[]impl.Change{gone("a"), gone("never")}, mapOf("b", letters(40), "c", "")},
		{[]impl.Change{set("a", "again")}, mapOf("a", "again", "b", letters(40), "c", "")},
		{[]impl.Change{gone("a"), set("b", ""), gone("c")}, mapOf("b", "")},
		{[]impl.Change{set("a", ""), set("b", "x")}, mapOf("a", "", "b", "x")},
		{[]impl.Change{gone("a"), gone("b")}, nil},
		{[]impl.Change{gone("a"), gone("b")}, nil},
		{[]impl.Change{set("\x00", "\x00"), set(letters(10), "\xff"), set("\xff", "")}, mapOf("\x00", "\x00", letters(10), "\xff", "\xff", "")},
		{[]impl.Change{set("\xff", "")}, mapOf("\x00", "\x00", letters(10), "\xff", "\xff", "")},
		{nil, mapOf("\x00", "\x00", letters(10), "\xff", "\xff", "")},
	} {
		d, s, _ = wantAdded(t, "a batch", d, s, batchOf(stamp, c.changes...))
		wantShelfMap(t, "a batch", d, s, c.want)
	}
	for why, b := range rightBatches() {
		fresh, _ := impl.FormatShelf(numbers(1))
		want, _ := plainMapDo(nil, b)
		behind, now, _ := wantAdded(t, why, fresh, opened(t, why, fresh), b)
		wantShelfMap(t, why, behind, now, want)
	}
}

// A value that is gone in a later segment stays gone, though it still stands in
// an earlier one.
func TestValuesGoneInALaterSegment(t *testing.T) {
	for n := 2; n <= 8; n++ {
		texts := make([]string, n)
		texts[0] = segmentOf(batchOf(1, set("a", "first"), set("b", "stays")))
		texts[n-1] = segmentOf(batchOf(2, gone("a")))
		d := segsDisk(texts...)
		wantShelfMap(t, "gone", d, opened(t, "gone", d), mapOf("b", "stays"))
		texts[n-1] += segmentOf(batchOf(3, set("a", "")))
		d = segsDisk(texts...)
		wantShelfMap(t, "put again", d, opened(t, "put again", d), mapOf("a", "", "b", "stays"))
		texts[0], texts[n-1] = texts[n-1], texts[0]
		d = segsDisk(texts...)
		wantShelfMap(t, "the other way round", d, opened(t, "the other way round", d), mapOf("a", "first", "b", "stays"))
	}
}

func TestPlacesOfShelfMap(t *testing.T) {
	d := sortedDisk("g0", "0123456789", "g7", "", "g999", letters(20000), "g01", "0123456789", "g1000", "0123456789", "other", "0123456789")
	at := func(list ...impl.Spot) impl.Shelf { return impl.Shelf{Dir: list} }
	for _, c := range []struct {
		place impl.Spot
		value string
	}{
		{spot("a", 0, 0, 0), ""},
		{spot("a", 0, 0, 1), "0"},
		{spot("a", 0, 0, 10), "0123456789"},
		{spot("a", 0, 3, 4), "3456"},
		{spot("a", 0, 9, 1), "9"},
		{spot("a", 0, 9, 0), ""},
		{spot("a", 0, 10, 0), ""},
		{spot("a", 7, 0, 0), ""},
		{spot("a", 999, 20000, 0), ""},
		{spot("a", 999, 19960, 40), letters(40)},
	} {
		wantShelfMap(t, "a place", d, at(c.place), mapOf("a", c.value))
		wantShelfMap(t, "among others", d, at(spot("A", 0, 1, 2), c.place, spot("b", 0, 5, 5)), mapOf("A", "12", "a", c.value, "b", "56789"))
	}
	for why, place := range map[string]impl.Spot{
		"At past the end by one":           spot("a", 0, 11, 0),
		"At at the end, and a byte":        spot("a", 0, 10, 1),
		"At past the end, and bytes":       spot("a", 0, 11, 5),
		"Size past the end by one":         spot("a", 0, 0, 11),
		"At and Size past the end by one":  spot("a", 0, 5, 6),
		"a byte of no bytes":               spot("a", 7, 0, 1),
		"At 1 of no bytes":                 spot("a", 7, 1, 0),
		"MaxText and a byte":               spot("a", 999, 20000, 1),
		"MaxText, past it by one":          spot("a", 999, 19961, 40),
		"At MaxText of ten bytes":          spot("a", 0, 20000, 0),
		"a segment that is not there":      spot("a", 1, 0, 0),
		"a segment whose name is not so":   spot("a", 998, 0, 1),
		"Seg MaxSeg + 1, and such a file":  spot("a", 1000, 0, 1),
		"Seg -1":                           spot("a", -1, 0, 0),
		"At -1":                            spot("a", 0, -1, 1),
		"Size -1":                          spot("a", 0, 0, -1),
		"Size MaxValue + 1":                spot("a", 999, 0, 41),
		"At MaxText + 1":                   spot("a", 999, 20001, 0),
		"At the greatest int":              spot("a", 0, math.MaxInt, 1),
		"Size the greatest int":            spot("a", 0, 1, math.MaxInt),
		"At and Size the greatest int":     spot("a", 0, math.MaxInt, math.MaxInt),
		"Seg the least int":                spot("a", math.MinInt, 0, 0),
		"an empty Key":                     spot("", 0, 0, 1),
		"a Key of 11 bytes":                spot(letters(11), 0, 0, 1),
		"a Size that is gone at its place": spotGone("a", 0),
	} {
		wantNoShelfMap(t, why, d, at(place))
		last := place
		last.Key = strings.Replace(place.Key, "a", "c", 1)
		wantNoShelfMap(t, why+", last", d, at(spot("b", 0, 0, 1), last))
		wantNoShelfMap(t, why+", first", d, at(place, spot("zz", 0, 0, 1)))
	}
	wantShelfMap(t, "no Keys", d, impl.Shelf{}, nil)
	wantShelfMap(t, "no Keys, no files", impl.Disk{}, impl.Shelf{}, nil)
	for why, wrong := range wrongDirs() {
		wantNoShelfMap(t, why, withFiles(d, "g1", letters(20000), "g2", letters(20000)), impl.Shelf{Dir: wrong})
	}
	for why, wrong := range wrongDisks() {
		wantNoShelfMap(t, why, wrong, impl.Shelf{})
	}
	wantNoShelfMap(t, "a disk that is not right", diskOf("z", "", "g0", "0123456789"), at(spot("a", 0, 0, 1)))
	wantNoShelfMap(t, "a file of MaxText + 1", diskOf("g0", "01", "g1", letters(20001)), at(spot("a", 0, 0, 1)))
}

// The manifest and the Stamp of the shelf are not looked at.
func TestShelfMapLooksAtDirAlone(t *testing.T) {
	d := diskOf("g0", "zero", "g4", "four")
	dir := spots(spot("a", 4, 0, 2), spot("b", 0, 1, 3))
	for _, m := range []impl.Manifest{{}, ordinary(), withSegs(9, 8), manifestOf(numbers(-1), -5, -5, -5, numbers(0))} {
		for _, stamp := range []int{-1, 0, 7, math.MaxInt, math.MinInt} {
			wantShelfMap(t, "any manifest", d, impl.Shelf{Man: m, Dir: dir, Stamp: stamp}, mapOf("a", "fo", "b", "ero"))
		}
	}
	wantShelfMap(t, "MaxPairs", d, impl.Shelf{Dir: manySpots(60)}, mapOfMany("k", 60, "ze"))
	wantNoShelfMap(t, "a Spot more", d, impl.Shelf{Dir: manySpots(61)})
}

// manySpots has n Keys that all stand at the beginning of the segment 0.
func manySpots(n int) []impl.Spot {
	var dir []impl.Spot
	for _, p := range mapOfMany("k", n, "") {
		dir = append(dir, spot(p.Key, 0, 0, 2))
	}
	return dir
}

func TestWrongBatchesAreNotAdded(t *testing.T) {
	for _, d := range []impl.Disk{segsDisk(""), segsDisk(segmentOfSize(500)), segsDisk(manyKeys("k", 3), segmentOfSize(499))} {
		s := opened(t, "a shelf", d)
		for why, b := range wrongBatches() {
			wantNotAdded(t, why, d, s, b)
		}
	}
}

// otherShelves has shelves that are s but for one thing.
func otherShelves(s impl.Shelf) map[string]impl.Shelf {
	others := map[string]impl.Shelf{"zero": {}}
	change := func(why string, turn func(o *impl.Shelf)) {
		o := s
		o.Man.Segs, o.Man.Conf, o.Dir = slices.Clone(s.Man.Segs), slices.Clone(s.Man.Conf), slices.Clone(s.Dir)
		turn(&o)
		others[why] = o
	}
	change("no manifest", func(o *impl.Shelf) { o.Man = impl.Manifest{} })
	change("no Segs", func(o *impl.Shelf) { o.Man.Segs = nil })
	change("a Seg fewer", func(o *impl.Shelf) { o.Man.Segs = o.Man.Segs[:1] })
	change("a Seg more", func(o *impl.Shelf) { o.Man.Segs = append(o.Man.Segs, 8) })
	change("another first Seg", func(o *impl.Shelf) { o.Man.Segs[0]-- })
	change("another last Seg", func(o *impl.Shelf) { o.Man.Segs[1]-- })
	change("Segs the other way round", func(o *impl.Shelf) { slices.Reverse(o.Man.Segs) })
	change("Segs too many", func(o *impl.Shelf) { o.Man.Segs = upTo(0, 9) })
	change("Next more", func(o *impl.Shelf) { o.Man.Next++ })
	change("Next less", func(o *impl.Shelf) { o.Man.Next-- })
	change("Next 0", func(o *impl.Shelf) { o.Man.Next = 0 })
	change("Base more", func(o *impl.Shelf) { o.Man.Base++ })
	change("Base less", func(o *impl.Shelf) { o.Man.Base-- })
	change("BaseTerm more", func(o *impl.Shelf) { o.Man.BaseTerm++ })
	change("BaseTerm less", func(o *impl.Shelf) { o.Man.BaseTerm-- })
	change("another Conf", func(o *impl.Shelf) { o.Man.Conf[1] = 3 })
	change("a Conf of fewer", func(o *impl.Shelf) { o.Man.Conf = o.Man.Conf[:1] })
	change("a Conf of more", func(o *impl.Shelf) { o.Man.Conf = numbers(1, 2, 3) })
	change("no Conf", func(o *impl.Shelf) { o.Man.Conf = nil })
	change("no Dir", func(o *impl.Shelf) { o.Dir = nil })
	change("a Spot fewer", func(o *impl.Shelf) { o.Dir = o.Dir[:1] })
	change("a Spot more", func(o *impl.Shelf) { o.Dir = append(o.Dir, spot("z", 2, 0, 0)) })
	change("another Key", func(o *impl.Shelf) { o.Dir[1].Key = "y" })
	change("another Seg", func(o *impl.Shelf) { o.Dir[0].Seg = 6 })
	change("another At", func(o *impl.Shelf) { o.Dir[0].At-- })
	change("another Size", func(o *impl.Shelf) { o.Dir[0].Size-- })
	change("Spots the other way round", func(o *impl.Shelf) { slices.Reverse(o.Dir) })
	change("Stamp more", func(o *impl.Shelf) { o.Stamp++ })
	change("Stamp less", func(o *impl.Shelf) { o.Stamp-- })
	change("Stamp the least int", func(o *impl.Shelf) { o.Stamp = math.MinInt })
	return others
}

func TestAnotherShelfTakesNoBatch(t *testing.T) {
	man := manifestOf(numbers(2, 6), 9, 3, 3, numbers(1, 2))
	for _, size := range []int{0, 499, 500} {
		d := shelfDisk(man, segmentOf(batchOf(4, set("a", "one"), set("b", ""))), segmentOfSize(size))
		s := opened(t, "a shelf", d)
		b := batchOf(1000, set("c", "new"))
		if _, _, list := wantAdded(t, "the shelf itself", d, s, b); list == nil {
			t.Error("the shelf itself takes no batch")
		}
		for why, other := range otherShelves(s) {
			if sameShelf(other, s) {
				t.Fatalf("%s: it is the same", why)
			}
			wantNotAdded(t, why, d, other, b)
		}
	}
}

// Empty lists and nil are the same value.
func TestEmptyListsOfAShelf(t *testing.T) {
	d, _ := impl.FormatShelf(numbers(1))
	s := opened(t, "formatted", d)
	for _, dir := range [][]impl.Spot{nil, {}, manySpots(3)[:0]} {
		for _, changes := range [][]impl.Change{nil, {}} {
			s.Dir = dir
			_, list, ok := impl.AddBatch(impl.Disk{Files: d.Files}, s, impl.Batch{Changes: changes})
			if !ok || len(list) != 1 {
				t.Errorf("AddBatch of empty lists = %s, %v", shortRaws(list), ok)
			}
			wantShelfMap(t, "an empty list", d, s, nil)
		}
	}
	for _, files := range [][]impl.File{nil, {}} {
		wantCode(t, "no files", impl.Disk{Files: files}, 2)
	}
}

func TestNoBatchIsAddedToADiskThatIsNotClean(t *testing.T) {
	text := segmentOf(batchOf(4, set("a", "xy")))
	for _, size := range []int{11, 499, 500} {
		d := segsDisk(text, segmentOfSize(size))
		s := opened(t, "clean", d)
		b := batchOf(9, set("a", "z"))
		for why, dirty := range map[string]impl.Disk{
			"a NameNew":                     withFiles(d, "m+", ""),
			"a NameNew with the manifest":   withFiles(d, "m+", plainManifestText(s.Man)),
			"a segment":                     withFiles(d, "g100", text),
			"the next segment":              withFiles(d, "g2", ""),
			"a byte behind":                 withFiles(d, "g1", segmentOfSize(size)+"x"),
			"a record that is no batch":     withFiles(d, "g1", segmentOfSize(size)+plainFrame("no")),
			"a byte behind the first":       withFiles(d, "g0", text+"x"),
			"no first segment":              withoutFile(d, "g0"),
			"no last segment":               withoutFile(d, "g1"),
			"no manifest":                   withoutFile(d, "m"),
			"another manifest":              withFiles(d, "m", plainManifestText(manifestOf(numbers(0, 1), 2, 0, 0, numbers(2)))),
			"a manifest with a byte turned": withFiles(d, "m", turned(plainManifestText(s.Man), 3, 4)),
			"a disk that is not right":      withFiles(d, letters(13), ""),
			"a batch more":                  withFiles(d, "g1", segmentOfSize(size)+segmentOf(batchOf(5))),
			"other bytes of a value moved":  withFiles(d, "g0", segmentOf(batchOf(4, set("a", "xyz")))),
		} {
			wantNotAdded(t, why, dirty, s, b)
			now, _, _ := impl.OpenShelf(dirty)
			if why != "another manifest" && why != "a batch more" && why != "other bytes of a value moved" {
				wantNotAdded(t, why+", as it is", dirty, now, b)
			}
		}
		for _, name := range append(namesThatLookLikeSegments(), "log", "vote", "z") {
			wantAdded(t, "another file", withFiles(d, name, text), s, b)
		}
	}
}

func TestBatchesUpToMaxPairs(t *testing.T) {
	for _, d := range []impl.Disk{segsDisk(manyKeys("k", 59)), segsDisk(manyKeys("k", 30), manyKeys("l", 29), segmentOf(batchOf(2)))} {
		s := opened(t, "one below", d)
		full, then, list := wantAdded(t, "MaxPairs", d, s, batchOf(3, set("z", "last")))
		if list == nil || len(then.Dir) != 60 {
			t.Errorf("MaxPairs Keys: %s", shortRaws(list))
		}
		wantNotAdded(t, "two more", d, s, batchOf(3, set("y", ""), set("z", "")))
		wantNotAdded(t, "a Key more", full, then, batchOf(3, set("y", "")))
		wantNotAdded(t, "a Key more, in front", full, then, batchOf(3, set("a", ""), gone("b")))
		for _, b := range []impl.Batch{
			batchOf(3, set("z", "anew")),
			batchOf(3, gone("never")),
			batchOf(3, set("y", "instead"), gone("z")),
			batchOf(3, set("a", "instead"), gone("k00")),
			batchOf(3, gone("k00"), set("zz", "instead")),
		} {
			if _, now, list := wantAdded(t, "full", full, then, b); list == nil || len(now.Dir) != 60 {
				t.Errorf("a full shelf does not take %v", b)
			}
		}
	}
	d, _ := impl.FormatShelf(numbers(1))
	s := opened(t, "formatted", d)
	if _, then, list := wantAdded(t, "MaxPairs at once", d, s, batchOfPairs(1, mapOfMany("k", 60, letters(40)))); list == nil || len(then.Dir) != 60 {
		t.Errorf("MaxPairs at once: %s", shortRaws(list))
	}
}

func TestBatchesUpToMaxText(t *testing.T) {
	b := batchOf(9, set("k", "value"))
	size := len(segmentOf(b))
	for why, man := range map[string]impl.Manifest{
		"MaxSegs":          manifestFrom(0, 8, 8),
		"Next at its end":  manifestFrom(999, 1, 1000),
		"Next far and out": manifestFrom(0, 2, 1000),
	} {
		for room := -2; room <= 2; room++ {
			texts := make([]string, len(man.Segs))
			texts[len(texts)-1] = segmentOfSize(20000 - size - room)
			d := shelfDisk(man, texts...)
			s := opened(t, why, d)
			if room < 0 {
				wantNotAdded(t, why, d, s, b)
				continue
			}
			then, list, ok := impl.AddBatch(d, s, b)
			behind, _ := impl.PutRaws(d, list)
			if !ok || len(list) != 1 || list[0] != add(segFile(man.Segs[len(texts)-1]), segmentOf(b)) {
				t.Errorf("%s: a segment with room for %d more: AddBatch = %s, %v", why, room, shortRaws(list), ok)
			}
			wantOpened(t, why, behind, then, nil, 0)
			wantShelfMap(t, why, behind, then, mapOf("k", "value"))
		}
		full := make([]string, len(man.Segs))
		full[len(full)-1] = segmentOfSize(20000)
		d := shelfDisk(man, full...)
		wantNotAdded(t, why+", full", d, opened(t, why, d), batchOf(9))
	}
	d := shelfDisk(manifestFrom(0, 7, 999), "", "", "", "", "", "", segmentOfSize(20000))
	if _, list, ok := impl.AddBatch(d, opened(t, "full", d), b); !ok || len(list) != 3 {
		t.Errorf("behind a full segment: %s, %v", shortRaws(list), ok)
	}
}

func TestBatchesUpToMaxFiles(t *testing.T) {
	for files := 2; files <= 30; files++ {
		for _, size := range []int{0, 499, 500, 501} {
			d := withFiles(segsDisk(segmentOfSize(size)))
			d.Files = append(fullDisk(files-2).Files, d.Files...)
			if len(d.Files) != files || !impl.DiskOk(d) {
				t.Fatalf("the disk is %s", short(d))
			}
			s := opened(t, "other files", d)
			b := batchOf(9, set("k", "value"))
			_, list, ok := impl.AddBatch(d, s, b)
			// A new segment and NameNew stand beside the others for a while.
			if ok != (size < 500 || files <= 28) {
				t.Errorf("%d files, %d bytes: AddBatch = %s, %v", files, size, shortRaws(list), ok)
			}
			wantAdded(t, "other files", d, s, b)
			if !ok {
				wantNotAdded(t, "too many files", d, s, b)
			}
		}
	}
}

// spoiledDisk is d with one thing else, which may leave a right shelf.
func spoiledDisk(d *drawing, disk impl.Disk) impl.Disk {
	files := slices.Clone(disk.Files)
	f := &files[d.below(len(files))]
	at := d.below(len(f.Text) + 1)
	switch d.below(9) {
	case 0:
		f.Text = f.Text[:at]
	case 1:
		f.Text += d.bytes(6)
	case 2:
		f.Text += segmentOf(batchOf(d.below(300), set(string([]byte{byte(d.below(256))}), d.bytes(9))))
	case 3:
		if f.Text != "" {
			f.Text = turned(f.Text, at%len(f.Text), d.below(256))
		}
	case 4:
		return withoutFile(disk, f.Name)
	case 5:
		return withFiles(disk, "m+", d.bytes(9))
	case 6:
		return withFiles(disk, segFile(d.below(20)), f.Text)
	case 7:
		return withFiles(disk, "m", plainManifestText(drawnManifest(d)))
	case 8:
		return withFiles(disk, namesThatLookLikeSegments()[d.below(20)], f.Text)
	}
	return impl.Disk{Files: files}
}

func TestDrawnDisksSpoiled(t *testing.T) {
	d := &drawing{state: 21}
	codes := make([]int, 5)
	cleaned := 0
	for range 60 {
		disk, _ := impl.FormatShelf(drawnSet(d, 4, 1, 5))
		s := opened(t, "formatted", disk)
		for range 10 {
			disk, s, _ = wantAdded(t, "drawn", disk, s, drawnNext(d, s.Stamp, 8, 60))
		}
		for range 20 {
			other := spoiledDisk(d, disk)
			if d.below(3) == 0 && len(other.Files) > 0 {
				other = spoiledDisk(d, other)
			}
			wantOpen(t, "spoiled", other)
			now, list, code := impl.OpenShelf(other)
			codes[code]++
			cleaned += min(len(list), 1)
			m, right := plainShelfMap(other, s)
			if right {
				wantShelfMap(t, "spoiled", other, s, m)
			} else {
				wantNoShelfMap(t, "spoiled", other, s)
			}
			b := drawnNext(d, now.Stamp, 8, 60)
			wantAdded(t, "spoiled, the shelf that was", other, s, b)
			wantAdded(t, "spoiled, the shelf that is", other, now, b)
			if code == 0 {
				clean, done := impl.PutRaws(other, list)
				wantOpened(t, "cleaned", clean, now, nil, 0)
				if done != len(list) {
					t.Errorf("%d of %d raw writes clean", done, len(list))
				}
				wantAdded(t, "cleaned", clean, now, b)
			}
		}
	}
	if codes[0] < 300 || codes[2] < 60 || codes[3] < 60 || codes[4] < 60 || cleaned < 150 {
		t.Errorf("the codes came %v times, and %d were to be cleaned", codes, cleaned)
	}
}

// The whole of a disk and of a shelf, with the room behind their lists.
func shelfWithRoom(d impl.Disk, s impl.Shelf) (impl.Disk, impl.Shelf) {
	d.Files = append(append(make([]impl.File, 0, 40), d.Files...), impl.File{Name: "spare", Text: "room"})[:len(d.Files)]
	s.Man.Segs = append(append(make([]int, 0, 20), s.Man.Segs...), 77, 78, 79)[:len(s.Man.Segs)]
	s.Man.Conf = append(append(make([]int, 0, 20), s.Man.Conf...), 87, 88, 89)[:len(s.Man.Conf)]
	s.Dir = append(append(make([]impl.Spot, 0, 90), s.Dir...), spot("spare", 7, 7, 7))[:len(s.Dir)]
	return d, s
}

func roomOf(d impl.Disk, s impl.Shelf, b impl.Batch) string {
	return fmt.Sprint(d.Files[:cap(d.Files)], s.Man.Segs[:cap(s.Man.Segs)], s.Man.Conf[:cap(s.Man.Conf)],
		s.Dir[:cap(s.Dir)], b.Changes[:cap(b.Changes)], s.Man, s.Stamp, b.Stamp)
}

func TestArgumentsOfShelvesStay(t *testing.T) {
	b := batchOf(9, set("a", "new"), gone("k00"))
	b.Changes = append(append(make([]impl.Change, 0, 9), b.Changes...), set("spare", "room"))[:2]
	for _, size := range []int{11, 499, 500} {
		clean := segsDisk(manyKeys("k", 5), segmentOfSize(size))
		for _, disk := range []impl.Disk{clean, withFiles(clean, "m+", "", "g9", "x", "g1", segmentOfSize(size)+"torn"), withoutFile(clean, "g0")} {
			d, s := shelfWithRoom(disk, opened(t, "clean", clean))
			was := roomOf(d, s, b)
			impl.OpenShelf(d)
			impl.ShelfMap(d, s)
			impl.AddBatch(d, s, b)
			impl.AddBatch(d, s, impl.Batch{Stamp: -1, Changes: b.Changes})
			impl.AddBatch(d, impl.Shelf{}, b)
			if now := roomOf(d, s, b); now != was {
				t.Errorf("an argument is another now: %s; was %s", now, was)
			}
		}
	}
	conf := append(make([]int, 0, 9), 1, 2, 88)[:2]
	impl.FormatShelf(conf)
	if !slices.Equal(conf[:3], numbers(1, 2, 88)) {
		t.Errorf("the conf is %v now", conf[:3])
	}
}

func rawTexts(list []impl.Raw) []string {
	var texts []string
	for _, r := range list {
		texts = append(texts, r.Name, r.To, r.Text)
	}
	return texts
}

// newDisk is d with new memory for each of its texts; these are answered too.
func newDisk(d impl.Disk) (impl.Disk, []string) {
	var words []string
	for _, f := range d.Files {
		words = append(words, newWords(f.Name, f.Text)...)
	}
	return diskOf(words...), words
}

func TestTextsOfShelvesAreNewMemory(t *testing.T) {
	torn := withFiles(segsDisk(manyKeys("k", 5), segmentOfSize(100)+"torn"), "m+", "new", "g77", "segment")
	d, words := newDisk(torn)
	s, list, _ := impl.OpenShelf(d)
	wantOwn(t, "OpenShelf", append(rawTexts(list), spotTexts(s.Dir)...), words)
	if len(list) != 3 || len(s.Dir) != 6 {
		t.Errorf("OpenShelf = %v, %s", s, shortRaws(list))
	}
	for _, size := range []int{499, 500} {
		d, words = newDisk(segsDisk(manyKeys("k", 5), segmentOfSize(size)))
		s = opened(t, "clean", d)
		m, _ := impl.ShelfMap(d, s)
		wantOwn(t, "ShelfMap", pairTexts(m), append(spotTexts(s.Dir), words...))
		if len(m) != 6 {
			t.Errorf("ShelfMap = %v", m)
		}
		fresh := newWords("newkey", "a new value")
		then, raws, ok := impl.AddBatch(d, s, batchOf(9, set(fresh[0], fresh[1])))
		handed := append(append(spotTexts(s.Dir), words...), fresh...)
		wantOwn(t, "AddBatch", append(rawTexts(raws), spotTexts(then.Dir)...), handed)
		wantOwn(t, "AddBatch: its Spots", spotTexts(then.Dir), rawTexts(raws))
		if !ok || len(then.Dir) != 7 {
			t.Errorf("AddBatch = %v, %v", then, ok)
		}
	}
}

// overwriteShelf writes into each list of a shelf and the room behind it.
func overwriteShelf(s impl.Shelf) {
	overwrite(s.Man.Segs)
	overwrite(s.Man.Conf)
	overwriteSpots(s.Dir)
}

func overwriteRaws(list []impl.Raw) {
	for i := range list[:cap(list)] {
		list[:cap(list)][i] = impl.Raw{Kind: -7, Name: "turned", To: "turned", Text: "turned"}
	}
}

// Each list of an answer is overwritten in turn; the others stay.
func wantListsApart(t *testing.T, why string, s impl.Shelf, list []impl.Raw) {
	t.Helper()
	kept := fmt.Sprint(s.Man.Conf, s.Dir, list)
	overwrite(s.Man.Segs)
	if fmt.Sprint(s.Man.Conf, s.Dir, list) != kept {
		t.Errorf("%s: Segs share memory with another list", why)
	}
	kept = fmt.Sprint(s.Dir, list)
	overwrite(s.Man.Conf)
	if fmt.Sprint(s.Dir, list) != kept {
		t.Errorf("%s: Conf shares memory with another list", why)
	}
	kept = fmt.Sprint(list)
	overwriteSpots(s.Dir)
	if fmt.Sprint(list) != kept {
		t.Errorf("%s: Dir shares memory with another list", why)
	}
	overwriteRaws(list)
}

func TestListsOfShelvesAreNewMemory(t *testing.T) {
	for _, size := range []int{100, 500} {
		clean := segsDisk(manyKeys("k", 5), segmentOfSize(size))
		d, s := shelfWithRoom(clean, opened(t, "clean", clean))
		dirty, _ := shelfWithRoom(withFiles(clean, "m+", "", "g9", "x", "g1", segmentOfSize(size)+"torn"), s)
		b := batchOf(9, set("a", "new"), gone("k00"))
		b.Changes = append(make([]impl.Change, 0, 9), b.Changes...)
		was := roomOf(d, s, b) + roomOf(dirty, s, b)
		for range 2 {
			opened, list, _ := impl.OpenShelf(dirty)
			wantListsApart(t, "OpenShelf", opened, list)
			then, raws, _ := impl.AddBatch(d, s, b)
			wantListsApart(t, "AddBatch", then, raws)
			m, _ := impl.ShelfMap(d, s)
			for i := range m[:cap(m)] {
				m[:cap(m)][i] = impl.Pair{Key: "turned", Value: "turned"}
			}
			if roomOf(d, s, b)+roomOf(dirty, s, b) != was {
				t.Error("what is answered is memory of an argument")
			}
			wantOpen(t, "once more", dirty)
			wantAdded(t, "once more", d, s, b)
			wantShelfMap(t, "once more", d, s, append(mapOf("k", letters(map[int]int{100: 38, 500: 30}[size])), mapOfMany("k", 5, "v")...))
		}
	}
	conf := numbers(1, 2)
	first, _ := impl.FormatShelf(conf)
	second, _ := impl.FormatShelf(conf)
	first.Files[0], first.Files[1] = impl.File{Name: "turned"}, impl.File{Name: "turned"}
	overwrite(conf)
	third, _ := impl.FormatShelf(numbers(1, 2))
	if !sameDisk(second, third) || second.Files[0].Name != "g0" {
		t.Errorf("FormatShelf answers memory that it keeps: %s, %s", short(second), short(third))
	}
}

// What is told does not hang on the order in which Go goes through a map.
func TestShelvesAreToldTheSameEachTime(t *testing.T) {
	d := segsDisk(manyKeys("k", 30), manyKeys("l", 30)+"torn")
	for seg := 10; seg < 30; seg++ {
		d = withFiles(d, segFile(seg), "x")
	}
	s, list, code := plainOpen(d)
	for range 100 {
		wantOpened(t, "each time", d, s, list, code)
	}
}

func TestManyShelvesAtOnce(t *testing.T) {
	var all sync.WaitGroup
	d := segsDisk(manyKeys("k", 30), segmentOfSize(500))
	s := opened(t, "clean", d)
	for range 8 {
		all.Add(1)
		go func() {
			defer all.Done()
			for range 10 {
				behind, then, _ := wantAdded(t, "at once", d, s, batchOf(9, set("a", "new")))
				if m, ok := impl.ShelfMap(behind, then); !ok || len(m) != 32 {
					t.Errorf("at once: ShelfMap = %v, %v", m, ok)
				}
			}
		}()
	}
	all.Wait()
}
