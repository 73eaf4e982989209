package tests

import (
	"math"
	"slices"
	"strings"
	"sync"
	"testing"

	"loop.example/g00103/impl"
)

func spot(key string, seg, at, size int) impl.Spot {
	return impl.Spot{Key: key, Seg: seg, At: at, Size: size}
}

func spots(list ...impl.Spot) []impl.Spot { return list }

// spotGone is the Spot of a change that is gone.
func spotGone(key string, seg int) impl.Spot { return spot(key, seg, 0, -1) }

// dirOfMany has n Keys of three bytes, which begin with this letter.
func dirOfMany(letter string, n int) []impl.Spot {
	var dir []impl.Spot
	for i, p := range mapOfMany(letter, n, "") {
		dir = append(dir, spot(p.Key, i, 333*i, i%41))
	}
	return dir
}

func goneOfMany(dir []impl.Spot) []impl.Spot {
	var list []impl.Spot
	for _, s := range dir {
		list = append(list, spotGone(s.Key, 1))
	}
	return list
}

// plainDirOk is the document's rule, each of its words over all Spots.
func plainDirOk(dir []impl.Spot) bool {
	right := len(dir) < 61
	for i, s := range dir {
		right = right && s.Key != "" && len(s.Key) < 11
		right = right && -1 < s.Seg && s.Seg < 1000
		right = right && -1 < s.At && s.At < 20001
		right = right && -1 < s.Size && s.Size < 41
		for _, behind := range dir[i+1:] {
			right = right && strings.Compare(s.Key, behind.Key) < 0
		}
	}
	return right
}

// plainDirMore goes from the last Spot to the first: what is said last of a Key
// is met first.
func plainDirMore(dir, list []impl.Spot) ([]impl.Spot, bool) {
	if !plainDirOk(dir) {
		return nil, false
	}
	all := slices.Concat(dir, list)
	slices.Reverse(all)
	met := map[string]bool{}
	var more []impl.Spot
	for _, s := range all {
		if !met[s.Key] && s.Size != -1 {
			more = append(more, s)
		}
		met[s.Key] = true
	}
	slices.SortFunc(more, func(a, b impl.Spot) int { return strings.Compare(a.Key, b.Key) })
	if !plainDirOk(more) {
		return nil, false
	}
	return more, true
}

// plainHintInner is what HintText seals, also of directories that are not right.
func plainHintInner(dir []impl.Spot) string {
	text := plainLength(len(dir))
	for _, s := range dir {
		text += plainShort(s.Key) + plainLength(s.Seg) + plainLength(s.At) + plainLength(s.Size)
	}
	return text
}

func plainHint(dir []impl.Spot) string { return plainSealed(plainHintInner(dir)) }

// hasHint tells whether all numbers of dir are such as can be written.
func hasHint(dir []impl.Spot) bool {
	return !slices.ContainsFunc(dir, func(s impl.Spot) bool { return min(s.Seg, s.At, s.Size) < 0 })
}

// plainReadHint guesses a directory, and looks whether the text is that one's.
func plainReadHint(text string) ([]impl.Spot, bool) {
	r := looseReader{rest: text[:max(0, len(text)-4)]}
	var dir []impl.Spot
	for range min(r.number(), 61) {
		s := impl.Spot{Key: r.some(r.number())}
		s.Seg, s.At, s.Size = r.number(), r.number(), r.number()
		dir = append(dir, s)
	}
	if !plainDirOk(dir) || plainHint(dir) != text {
		return nil, false
	}
	return dir, true
}

// plainScan tells a Value's place by the length of all that is written ahead of
// its end.
func plainScan(text string, seg int) ([]impl.Spot, []string, int) {
	var list []impl.Spot
	var texts []string
	most := -1
	records, _ := plainUnframe(text)
	for _, record := range records {
		b, ok := plainReadBatch(record)
		if !ok {
			break
		}
		begin := len(plainFrames(texts...)) + len(plainFrame(record)) - len(record)
		for i, c := range b.Changes {
			end := begin + len(plainBatchText(batchOf(b.Stamp, b.Changes[:i+1]...)))
			s := spot(c.Key, seg, end-len(c.Value), len(c.Value))
			if c.Gone {
				s = spotGone(c.Key, seg)
			}
			list = append(list, s)
		}
		texts = append(texts, record)
		most = max(most, b.Stamp)
	}
	return list, texts, most
}

// segmentOf has the frames of these batches, one behind the other.
func segmentOf(batches ...impl.Batch) string {
	text := ""
	for _, b := range batches {
		text += plainFrame(plainBatchText(b))
	}
	return text
}

func textsOf(batches ...impl.Batch) []string {
	var texts []string
	for _, b := range batches {
		texts = append(texts, plainBatchText(b))
	}
	return texts
}

func wantScanned(t *testing.T, why string, text string, seg int, list []impl.Spot, texts []string, stamp int) {
	t.Helper()
	gotList, gotTexts, gotStamp := impl.ScanSeg(text, seg)
	if !slices.Equal(gotList, list) || !slices.Equal(gotTexts, texts) || gotStamp != stamp {
		t.Errorf("%s: ScanSeg(%.60q of %d bytes, %d) = %.120v, %.80q, %d; want %.120v, %.80q, %d",
			why, text, len(text), seg, gotList, gotTexts, gotStamp, list, texts, stamp)
	}
}

func wantScan(t *testing.T, why string, text string, seg int) {
	t.Helper()
	list, texts, stamp := plainScan(text, seg)
	wantScanned(t, why, text, seg, list, texts, stamp)
}

func wantMore(t *testing.T, why string, dir, list []impl.Spot) {
	t.Helper()
	want, right := plainDirMore(dir, list)
	got, ok := impl.DirMore(dir, list)
	if ok != right || !slices.Equal(got, want) {
		t.Errorf("%s: DirMore(%.120v, %.120v) = %.120v, %v; want %.120v, %v", why, dir, list, got, ok, want, right)
	}
}

func wantNoMore(t *testing.T, why string, dir, list []impl.Spot) {
	t.Helper()
	if got, ok := impl.DirMore(dir, list); ok || len(got) != 0 {
		t.Errorf("%s: DirMore(%.120v, %.120v) = %.120v, %v; want nothing, false", why, dir, list, got, ok)
	}
}

func wantHint(t *testing.T, why string, text string) {
	t.Helper()
	dir, right := plainReadHint(text)
	if got, ok := impl.ReadHint(text); ok != right || !slices.Equal(got, dir) {
		t.Errorf("%s: ReadHint(%.60q of %d bytes) = %.120v, %v; want %.120v, %v", why, text, len(text), got, ok, dir, right)
	}
}

func wantNoHint(t *testing.T, why string, text string) {
	t.Helper()
	if got, ok := impl.ReadHint(text); ok || len(got) != 0 {
		t.Errorf("%s: ReadHint(%.60q of %d bytes) = %.120v, %v; want nothing, false", why, text, len(text), got, ok)
	}
}

func hintComesBack(t *testing.T, why string, dir []impl.Spot) {
	t.Helper()
	text, ok := impl.HintText(dir)
	if !ok || text != plainHint(dir) {
		t.Errorf("%s: HintText(%.120v) = %.60q, %v; want %.60q", why, dir, text, ok, plainHint(dir))
	}
	if got, ok := impl.ReadHint(text); !ok || !slices.Equal(got, dir) {
		t.Errorf("%s: ReadHint(%.60q) = %.120v, %v; want %.120v", why, text, got, ok, dir)
	}
}

func rightDirs() map[string][]impl.Spot {
	high := strings.Repeat("\xff", 10)
	return map[string][]impl.Spot{
		"nil":                    nil,
		"an empty list":          {},
		"one":                    spots(spot("a", 3, 11, 2)),
		"one of noughts":         spots(spot("a", 0, 0, 0)),
		"some":                   spots(spot("a", 0, 11, 2), spot("b", 2, 400, 0), spot("c", 1, 9, 40)),
		"at one place":           spots(spot("a", 1, 5, 6), spot("b", 1, 5, 6)),
		"all numbers least":      spots(spot("a", 0, 0, 0), spot("b", 0, 0, 0)),
		"all numbers greatest":   spots(spot("a", 999, 20000, 40), spot("b", 999, 20000, 40)),
		"Seg MaxSeg":             spots(spot("a", 999, 1, 1)),
		"Seg MaxSeg - 1":         spots(spot("a", 998, 1, 1)),
		"At MaxText":             spots(spot("a", 1, 20000, 1)),
		"At MaxText - 1":         spots(spot("a", 1, 19999, 1)),
		"Size MaxValue":          spots(spot("a", 1, 1, 40)),
		"Size MaxValue - 1":      spots(spot("a", 1, 1, 39)),
		"Keys of 1 and 10 bytes": spots(spot("k", 1, 1, 1), spot(letters(10), 1, 1, 1)),
		"a beginning ahead":      spots(spot("a", 1, 1, 1), spot("aa", 1, 1, 1), spot("ab", 1, 1, 1)),
		"bytes of 0":             spots(spot("\x00", 1, 1, 1), spot("\x00\x00", 1, 1, 1), spot("\x00\x01", 1, 1, 1)),
		"bytes above 127":        spots(spot("\x7f", 1, 1, 1), spot("\x80", 1, 1, 1), spot("\xff", 1, 1, 1), spot(high, 1, 1, 1)),
		"letters of many bytes":  spots(spot("z", 1, 1, 1), spot("\u00e4", 1, 1, 1), spot("\u20ac", 1, 1, 1)),
		"numbers of more bytes":  spots(spot("a", 127, 127, 1), spot("b", 128, 128, 1), spot("c", 300, 16383, 1), spot("d", 1, 16384, 1)),
		"MaxPairs":               dirOfMany("k", 60),
		"MaxPairs, one fewer":    dirOfMany("k", 59),
		"half of them":           dirOfMany("k", 30),
	}
}

func wrongDirs() map[string][]impl.Spot {
	const least, most = math.MinInt, math.MaxInt
	dirs := map[string][]impl.Spot{
		"a Spot too many":          dirOfMany("k", 61),
		"a hundred":                dirOfMany("k", 100),
		"a zero Spot":              make([]impl.Spot, 1),
		"an empty Key and a right": spots(spot("", 1, 1, 1), spot("a", 1, 1, 1)),
		"an empty Key behind":      spots(spot("a", 1, 1, 1), spot("", 1, 1, 1)),
		"two Keys alike":           spots(spot("a", 1, 1, 1), spot("a", 2, 1, 1)),
		"two Spots alike":          spots(spot("a", 1, 1, 1), spot("a", 1, 1, 1)),
		"alike at a distance":      spots(spot("a", 1, 1, 1), spot("b", 1, 1, 1), spot("a", 1, 1, 1)),
		"alike at the end":         spots(spot("a", 1, 1, 1), spot("b", 1, 1, 1), spot("b", 1, 1, 1)),
		"the other way round":      spots(spot("b", 1, 1, 1), spot("a", 1, 1, 1)),
		"last the other way round": spots(spot("a", 1, 1, 1), spot("c", 1, 1, 1), spot("b", 1, 1, 1)),
		"a beginning behind":       spots(spot("aa", 1, 1, 1), spot("a", 1, 1, 1)),
		"above 127 ahead":          spots(spot("\x80", 1, 1, 1), spot("\x7f", 1, 1, 1)),
		"many bytes ahead":         spots(spot("\u00e4", 1, 1, 1), spot("z", 1, 1, 1)),
		"one gone":                 spots(spotGone("a", 1)),
		"one gone among others":    spots(spot("a", 1, 1, 1), spotGone("b", 1), spot("c", 1, 1, 1)),
	}
	for why, s := range map[string]impl.Spot{
		"an empty Key":          spot("", 1, 1, 1),
		"a Key of 11 bytes":     spot(letters(11), 1, 1, 1),
		"a Key far too long":    spot(letters(20001), 1, 1, 1),
		"Seg -1":                spot("a", -1, 1, 1),
		"Seg MaxSeg + 1":        spot("a", 1000, 1, 1),
		"Seg the least int":     spot("a", least, 1, 1),
		"Seg the greatest int":  spot("a", most, 1, 1),
		"At -1":                 spot("a", 1, -1, 1),
		"At MaxText + 1":        spot("a", 1, 20001, 1),
		"At the least int":      spot("a", 1, least, 1),
		"At the greatest int":   spot("a", 1, most, 1),
		"Size -1":               spot("a", 1, 1, -1),
		"Size -2":               spot("a", 1, 1, -2),
		"Size MaxValue + 1":     spot("a", 1, 1, 41),
		"Size the least int":    spot("a", 1, 1, least),
		"Size the greatest int": spot("a", 1, 1, most),
		"all too great":         spot("a", 1000, 20001, 41),
	} {
		dirs[why] = spots(s)
		last := s
		last.Key = strings.Replace(s.Key, "a", "z", 1)
		dirs[why+", last"] = spots(spot("b", 1, 1, 1), last)
		dirs[why+", first"] = spots(s, spot("zz", 1, 1, 1))
	}
	return dirs
}

func TestDirLimits(t *testing.T) {
	if impl.MaxText != 20000 || impl.MaxKey != 10 || impl.MaxValue != 40 || impl.MaxPairs != 60 || impl.MaxSeg != 999 {
		t.Error("a limit of directories is not the document's")
	}
}

func TestDirOk(t *testing.T) {
	for why, dir := range rightDirs() {
		if !plainDirOk(dir) || !impl.DirOk(dir) {
			t.Errorf("%s: DirOk is false", why)
		}
	}
	for why, dir := range wrongDirs() {
		if plainDirOk(dir) || impl.DirOk(dir) {
			t.Errorf("%s: DirOk is true", why)
		}
	}
	for a := range 256 {
		for b := range 256 {
			two := spots(spot(string([]byte{byte(a)}), 1, 1, 1), spot(string([]byte{byte(b)}), 1, 1, 1))
			if ok := impl.DirOk(two); ok != (a < b) {
				t.Errorf("DirOk of the Keys %d and %d = %v", a, b, ok)
			}
		}
	}
	for n := range 101 {
		if ok := impl.DirOk(dirOfMany("k", n)); ok != (n <= 60) {
			t.Errorf("DirOk of %d Spots = %v", n, ok)
		}
	}
}

func TestDirOkOfNumbersAround(t *testing.T) {
	around := numbers(math.MinInt, -1000000, -2, -1, 0, 1, 39, 40, 41, 42, 998, 999, 1000, 1001, 19999, 20000, 20001, 20002, math.MaxInt)
	for _, seg := range around {
		for _, at := range around {
			for _, size := range around {
				dir := spots(spot("a", seg, at, size))
				if ok := impl.DirOk(dir); ok != plainDirOk(dir) {
					t.Errorf("DirOk(%v) = %v", dir, ok)
				}
			}
		}
	}
	for size := range 60 {
		if ok := impl.DirOk(spots(spot(letters(size), 1, 1, 1))); ok != (1 <= size && size <= 10) {
			t.Errorf("DirOk of a Key of %d bytes = %v", size, ok)
		}
	}
}

func TestScanBytes(t *testing.T) {
	// A frame has 5 bytes ahead of its record here, a change 3 ahead of how
	// long its Value is.
	first := batchOf(4, set("a", "xy"), gone("b"))
	wantScanned(t, "one batch", segmentOf(first), 3, spots(spot("a", 3, 11, 2), spotGone("b", 3)), textsOf(first), 4)
	second := batchOf(128, set("aa", ""), set("c", "z"))
	text := segmentOf(first, second)
	if text[11:13] != "xy" || text[34:35] != "z" {
		t.Fatalf("the Values are not there: %q", text)
	}
	wantScanned(t, "two batches", text, 0,
		spots(spot("a", 0, 11, 2), spotGone("b", 0), spot("aa", 0, 30, 0), spot("c", 0, 34, 1)), textsOf(first, second), 128)
	wantScanned(t, "the other way round", segmentOf(second, first), 7,
		spots(spot("aa", 7, 13, 0), spot("c", 7, 17, 1), spot("a", 7, 29, 2), spotGone("b", 7)), textsOf(second, first), 128)
	wantScanned(t, "a batch of no changes", segmentOf(batchOf(5)), 1, nil, []string{"\x05\x00"}, 5)
	wantScanned(t, "Stamp 0", segmentOf(batchOf(0)), 1, nil, []string{"\x00\x00"}, 0)
	wantScanned(t, "a Key twice", segmentOf(batchOf(1, set("k", "1")), batchOf(1, set("k", "2"))), 1,
		spots(spot("k", 1, 11, 1), spot("k", 1, 23, 1)), []string{"\x01\x01\x01k\x00\x011", "\x01\x01\x01k\x00\x012"}, 1)
}

func TestScanOfNoBatches(t *testing.T) {
	for _, seg := range []int{-1, 0, 999, 1000} {
		wantScanned(t, "nothing", "", seg, nil, nil, -1)
		for b := range 256 {
			same := string([]byte{byte(b)})
			wantScanned(t, "a byte", same, seg, nil, nil, -1)
			wantScanned(t, "bytes", strings.Repeat(same, 40), seg, nil, nil, -1)
		}
	}
	text := plainBatchText(batchOf(1, set("a", "x")))
	wantScanned(t, "a batch without a frame", text, 1, nil, nil, -1)
	wantScanned(t, "a batch that is sealed", plainSealed(text), 1, nil, nil, -1)
	wantScanned(t, "a frame of a frame", plainFrame(plainFrame(text)), 1, nil, nil, -1)
	wantScanned(t, "a frame of no bytes", plainFrame(""), 1, nil, nil, -1)
}

// Any seg is told as it is: which are right, DirOk says.
func TestScanOfAnySeg(t *testing.T) {
	text := segmentOf(batchOf(4, set("a", "xy"), gone("b")))
	for _, seg := range []int{math.MinInt, -1000, -1, 0, 1, 998, 999, 1000, 1001, math.MaxInt} {
		wantScanned(t, "a seg", text, seg, spots(spot("a", seg, 11, 2), spotGone("b", seg)), []string{text[5:]}, 4)
		list, _, _ := impl.ScanSeg(text, seg)
		dir, ok := impl.DirMore(nil, list)
		if ok != (0 <= seg && seg <= 999) || ok && len(dir) != 1 || !ok && len(dir) != 0 {
			t.Errorf("a directory of the seg %d is %v, %v", seg, dir, ok)
		}
	}
}

func TestScanOfEachBatch(t *testing.T) {
	for why, b := range rightBatches() {
		wantScan(t, why, segmentOf(b), 1)
		for other, c := range rightBatches() {
			wantScan(t, why+", "+other, segmentOf(b, c), 999)
		}
	}
}

// What is said of a change are the bytes of its Value, or that it is gone.
func wantSaid(t *testing.T, why string, text string, batches []impl.Batch) {
	t.Helper()
	list, texts, stamp := impl.ScanSeg(text, 5)
	var changes []impl.Change
	most := -1
	for _, b := range batches {
		changes = append(changes, b.Changes...)
		most = max(most, b.Stamp)
	}
	if len(list) != len(changes) || !slices.Equal(texts, textsOf(batches...)) || stamp != most {
		t.Errorf("%s: ScanSeg tells %d Spots, %d texts, %d", why, len(list), len(texts), stamp)
		return
	}
	for i, c := range changes {
		s := list[i]
		switch {
		case s.Key != c.Key || s.Seg != 5:
			t.Errorf("%s: %v is told of %v", why, s, c)
		case c.Gone && (s.At != 0 || s.Size != -1):
			t.Errorf("%s: %v is told of %v, which is gone", why, s, c)
		case !c.Gone && (s.Size != len(c.Value) || text[s.At:s.At+s.Size] != c.Value || s.At < 11):
			t.Errorf("%s: %v is told of %v", why, s, c)
		}
	}
}

// drawnSegment has up to most batches, all right, of Keys of which two are
// likely to be the same.
func drawnSegment(d *drawing, most, keys int) []impl.Batch {
	var batches []impl.Batch
	for range d.below(most + 1) {
		b := impl.Batch{Stamp: d.below([]int{3, 300, 100001}[d.below(3)])}
		for _, p := range drawnMap(d, keys) {
			c := set(p.Key, p.Value+d.bytes(40-len(p.Value)))
			if d.below(3) == 0 {
				c = gone(p.Key)
			}
			if p.Key != "" && len(b.Changes) < 60 {
				b.Changes = append(b.Changes, c)
			}
		}
		batches = append(batches, b)
	}
	return batches
}

func TestScanOfDrawnSegments(t *testing.T) {
	d := &drawing{state: 13}
	changes := 0
	for i := range 1000 {
		batches := drawnSegment(d, 5, []int{10, 60, 200}[d.below(3)])
		text := segmentOf(batches...)
		if len(text) > 20000 {
			continue
		}
		wantSaid(t, "drawn", text, batches)
		wantSaid(t, "drawn, torn behind", text+"torn", batches)
		if i%10 == 0 {
			wantScan(t, "drawn", text, i)
		}
		list, _, _ := impl.ScanSeg(text, 1)
		changes += len(list)
	}
	if changes < 5000 {
		t.Errorf("the drawn segments have %d changes", changes)
	}
}

func TestScanOfASegmentCutAtEveryByte(t *testing.T) {
	batches := []impl.Batch{batchOf(7, set("a", "xy"), gone("b")), batchOf(2), batchOf(9, set("c", letters(40))), batchOfMany(20)}
	text := segmentOf(batches...)
	whole := 0
	for cut := 0; cut <= len(text); cut++ {
		if whole < len(batches) && cut == len(segmentOf(batches[:whole+1]...)) {
			whole++
		}
		wantSaid(t, "cut", text[:cut], batches[:whole])
	}
	if whole != len(batches) {
		t.Errorf("%d of %d batches were ever whole", whole, len(batches))
	}
}

func TestScanOfASegmentWithAByteTurned(t *testing.T) {
	batches := []impl.Batch{batchOf(7, set("a", "xy"), gone("b")), batchOf(200, set("c", "")), batchOf(9, gone("a"))}
	text := segmentOf(batches...)
	whole := 0
	for at := range len(text) {
		if at == len(segmentOf(batches[:whole+1]...)) {
			whole++
		}
		for by := 1; by < 256; by++ {
			wantSaid(t, "a byte turned", turned(text, at, by), batches[:whole])
		}
	}
}

// What comes behind the first record that is no batch is not told, be it right.
func TestScanUpToTheFirstThatIsNone(t *testing.T) {
	right := []impl.Batch{batchOf(7, set("a", "xy"), gone("b")), batchOf(2, set("c", ""))}
	behind := segmentOf(batchOf(100, set("d", "never")), batchOf(3, gone("a")))
	wrong := map[string]string{
		"a torn frame":           segmentOf(batchOf(50, set("e", "torn")))[:9],
		"a frame of no bytes":    plainFrame(""),
		"a byte turned":          turned(segmentOf(batchOf(50, set("e", "x"))), 9, 1),
		"noughts":                "\x00\x00\x00",
		"a record of words":      plainFrame("no batch"),
		"a record of one byte":   plainFrame("\x00"),
		"bytes behind its batch": plainFrame(plainBatchText(batchOf(50, set("e", "x"))) + "\x00"),
		"a batch without an end": plainFrame(plainBatchText(batchOf(50, set("e", "x")))[:6]),
		"a longer form":          plainFrame(longer(plainBatchText(batchOf(50, set("e", "x"))), 0)),
		"a record too long":      plainFrame(letters(9001)),
	}
	for why, b := range wrongBatches() {
		if record := plainBatchText(b); b.Stamp >= 0 && len(record) < 9000 {
			wrong["a batch that is not right: "+why] = plainFrame(record)
		}
	}
	for why, bytes := range wrong {
		for n := range 3 {
			ahead := segmentOf(right[:n]...)
			wantSaid(t, why+", last", ahead+bytes, right[:n])
			if len(ahead+bytes+behind) <= 20000 {
				wantSaid(t, why+", right ones behind", ahead+bytes+behind, right[:n])
			}
			wantScan(t, why, ahead+bytes+behind, 4)
		}
		both := []impl.Batch{batchOf(100, set("d", "never")), batchOf(3, gone("a"))}
		wantSaid(t, why+", behind others", behind+bytes, both)
	}
}

func TestScanUpToMaxText(t *testing.T) {
	var batches []impl.Batch
	for range 391 {
		batches = append(batches, batchOf(1, set("k", letters(40))))
	}
	batches = append(batches, batchOf(2, set("k", letters(37))), batchOf(1, set("z", "")))
	text := segmentOf(batches...)
	if len(text) != 20000 {
		t.Fatalf("the segment has %d bytes", len(text))
	}
	wantSaid(t, "MaxText bytes", text, batches)
	wantSaid(t, "MaxText bytes, one cut", text[:19999], batches[:392])
	wantScanned(t, "MaxText + 1 bytes", text+"x", 5, nil, nil, -1)
	wantScanned(t, "MaxText + 1 bytes of frames", "x"+text, 5, nil, nil, -1)
	wantScanned(t, "twice as many", text+text, 5, nil, nil, -1)
	list, _, _ := impl.ScanSeg(text, 5)
	if last := list[len(list)-1]; last != spot("z", 5, 20000, 0) {
		t.Errorf("the last Spot is %v", last)
	}
	want := spots(spot("k", 5, 19952, 37), spot("z", 5, 20000, 0))
	dir, ok := impl.DirMore(nil, list)
	if !ok || !slices.Equal(dir, want) {
		t.Errorf("the directory is %v, %v; want %v", dir, ok, want)
	}
	hintComesBack(t, "a Value at the very end", dir)
}

func TestScanOfStamps(t *testing.T) {
	for _, stamps := range [][]int{{0}, {0, 0}, {1, 2, 3}, {3, 2, 1}, {5, 100000, 7}, {100000}, {127, 128}, {0, 1, 0}} {
		var batches []impl.Batch
		for _, stamp := range stamps {
			batches = append(batches, batchOf(stamp, set("k", "v")))
		}
		if _, _, most := impl.ScanSeg(segmentOf(batches...), 1); most != slices.Max(stamps) {
			t.Errorf("the greatest of the Stamps %v is told as %d", stamps, most)
		}
		text := segmentOf(batches...) + plainFrame(plainBatchText(batchOf(100001)))
		if _, _, most := impl.ScanSeg(text, 1); most != slices.Max(stamps) {
			t.Errorf("ahead of a Stamp that is too great, the greatest of %v is told as %d", stamps, most)
		}
	}
}

func TestScanOfRecordsOfEachSize(t *testing.T) {
	for n := range 61 {
		batches := []impl.Batch{batchOfMany(n), batchOf(n, set("k", "v")), batchOfMany(60 - n)}
		wantSaid(t, "so many changes", segmentOf(batches...), batches)
	}
	for size := range 41 {
		for n := 1; n <= 10; n++ {
			batches := []impl.Batch{batchOf(127+size, set(letters(n), letters(size)), gone("y")), batchOf(1, set("k", "v"))}
			wantSaid(t, "such a Key and Value", segmentOf(batches...), batches)
		}
	}
}

func TestDirectoriesBehindSpots(t *testing.T) {
	some := spots(spot("b", 1, 10, 1), spot("d", 2, 20, 2), spot("f", 3, 30, 3))
	other := func(at int, s impl.Spot) []impl.Spot {
		dir := slices.Clone(some)
		dir[at] = s
		return dir
	}
	for _, c := range []struct{ list, want []impl.Spot }{
		{nil, some},
		{spots(), some},
		{spots(some[1]), some},
		{some, some},
		{spots(spot("b", 9, 90, 9)), other(0, spot("b", 9, 90, 9))},
		{spots(spot("d", 0, 0, 0)), other(1, spot("d", 0, 0, 0))},
		{spots(spot("f", 999, 20000, 40)), other(2, spot("f", 999, 20000, 40))},
		{spots(spot("a", 9, 9, 9)), spots(spot("a", 9, 9, 9), some[0], some[1], some[2])},
		{spots(spot("c", 9, 9, 9)), spots(some[0], spot("c", 9, 9, 9), some[1], some[2])},
		{spots(spot("g", 9, 9, 9)), spots(some[0], some[1], some[2], spot("g", 9, 9, 9))},
		{spots(spot("bb", 9, 9, 9)), spots(some[0], spot("bb", 9, 9, 9), some[1], some[2])},
		{spots(spotGone("b", 9)), spots(some[1], some[2])},
		{spots(spotGone("d", 9)), spots(some[0], some[2])},
		{spots(spotGone("f", 9)), spots(some[0], some[1])},
		{spots(spotGone("a", 9)), some},
		{spots(spotGone("c", 9), spotGone("g", 9)), some},
		{spots(spotGone("b", 9), spotGone("d", 9), spotGone("f", 9)), nil},
		{spots(spotGone("b", 9), spot("b", 8, 8, 8)), other(0, spot("b", 8, 8, 8))},
		{spots(spot("b", 8, 8, 8), spotGone("b", 9)), spots(some[1], some[2])},
		{spots(spotGone("b", 9), spotGone("b", 9)), spots(some[1], some[2])},
		{spots(spotGone("b", 9), spot("b", 8, 8, 8), spotGone("b", 7)), spots(some[1], some[2])},
		{spots(spot("b", 8, 8, 8), spotGone("b", 9), spot("b", 7, 7, 0)), other(0, spot("b", 7, 7, 0))},
		{spots(spot("g", 8, 8, 8), spotGone("g", 9)), some},
		{spots(spotGone("g", 9), spot("g", 8, 8, 8)), spots(some[0], some[1], some[2], spot("g", 8, 8, 8))},
		{spots(spot("d", 8, 8, 8), spot("d", 7, 7, 7)), other(1, spot("d", 7, 7, 7))},
		{spots(spot("d", 8, 8, 8), some[1]), some},
		{spots(spot("g", 1, 1, 1), spot("a", 1, 1, 1)), spots(spot("a", 1, 1, 1), some[0], some[1], some[2], spot("g", 1, 1, 1))},
	} {
		if got, ok := impl.DirMore(some, c.list); !ok || !slices.Equal(got, c.want) {
			t.Errorf("DirMore(%v, %v) = %v, %v; want %v", some, c.list, got, ok, c.want)
		}
		wantMore(t, "of nothing", nil, slices.Concat(some, c.list))
		wantMore(t, "of nothing, the list alone", nil, c.list)
	}
}

// listsOfSpots has each list of up to size of these Spots.
func listsOfSpots(size int, of ...impl.Spot) [][]impl.Spot {
	lists := [][]impl.Spot{nil}
	last := lists
	for range size {
		var more [][]impl.Spot
		for _, list := range last {
			for _, s := range of {
				more = append(more, append(slices.Clip(list), s))
			}
		}
		lists = append(lists, more...)
		last = more
	}
	return lists
}

func TestDirectoriesBehindEachShortList(t *testing.T) {
	lists := listsOfSpots(4, spot("a", 1, 1, 1), spot("a", 2, 2, 0), spotGone("a", 3), spot("b", 4, 4, 4),
		spotGone("b", 5), spot("b", 6, 6, -2), spot("", 7, 7, 7), spotGone("", 8))
	for _, dir := range [][]impl.Spot{nil, spots(spot("a", 9, 9, 9)), spots(spot("a", 9, 9, 9), spot("b", 9, 9, 9))} {
		done := 0
		for _, list := range lists {
			wantMore(t, "a short list", dir, list)
			if _, ok := impl.DirMore(dir, list); ok {
				done++
			}
		}
		if done < 1000 || done > 4000 {
			t.Errorf("%d of %d short lists are done", done, len(lists))
		}
	}
}

func TestDirectoriesBehindEachOther(t *testing.T) {
	for why, dir := range rightDirs() {
		for kind, list := range rightDirs() {
			wantMore(t, why+", "+kind, dir, list)
			wantMore(t, why+", all gone of "+kind, dir, goneOfMany(list))
		}
		for kind, list := range wrongDirs() {
			wantMore(t, why+", "+kind, dir, list)
			if got, ok := impl.DirMore(dir, slices.Concat(list, goneOfMany(list), goneOfMany(dir))); !ok || len(got) != 0 {
				t.Errorf("%s, all gone behind %s: DirMore = %v, %v", why, kind, got, ok)
			}
		}
	}
}

func TestWrongDirectoriesHaveNoMore(t *testing.T) {
	for why, dir := range wrongDirs() {
		wantNoMore(t, why, dir, nil)
		wantNoMore(t, why+", itself", dir, dir)
		wantNoMore(t, why+", all gone", dir, goneOfMany(dir))
		wantNoMore(t, why+", one more", dir, spots(spot("a", 1, 1, 1)))
		for kind, right := range rightDirs() {
			wantNoMore(t, why+", "+kind, dir, right)
		}
	}
}

// oddSpots are those that no directory may have, but a list may, ahead of one
// that says otherwise.
func oddSpots() map[string]impl.Spot {
	return map[string]impl.Spot{
		"an empty Key":      spot("", 1, 1, 1),
		"a Key of 11 bytes": spot(letters(11), 1, 1, 1),
		"Seg -1":            spot("o", -1, 1, 1),
		"Seg MaxSeg + 1":    spot("o", 1000, 1, 1),
		"At -1":             spot("o", 1, -1, 1),
		"At MaxText + 1":    spot("o", 1, 20001, 1),
		"Size -2":           spot("o", 1, 1, -2),
		"Size MaxValue + 1": spot("o", 1, 1, 41),
		"Size the least":    spot("o", 1, 1, math.MinInt),
		"Size the greatest": spot("o", 1, 1, math.MaxInt),
	}
}

func TestOddSpotsInAList(t *testing.T) {
	some := spots(spot("b", 1, 10, 1), spot("d", 2, 20, 2))
	for why, odd := range oddSpots() {
		wantNoMore(t, why, nil, spots(odd))
		wantNoMore(t, why, some, spots(odd))
		wantNoMore(t, why+", first", some, spots(odd, spot("d", 3, 3, 3)))
		wantNoMore(t, why+", last", some, spots(spot("d", 3, 3, 3), odd))
		wantNoMore(t, why+", gone ahead", some, spots(spotGone(odd.Key, 1), odd))
		off := odd
		off.Size = -1
		for _, list := range [][]impl.Spot{spots(off), spots(odd, off), spots(odd, odd, off), spots(off, odd, off)} {
			if got, ok := impl.DirMore(some, list); !ok || !slices.Equal(got, some) {
				t.Errorf("%s, but gone: DirMore(%v, %v) = %v, %v", why, some, list, got, ok)
			}
		}
		if odd.Key == "o" {
			again := spot("o", 5, 5, 5)
			want := spots(some[0], some[1], again)
			if got, ok := impl.DirMore(some, spots(odd, again)); !ok || !slices.Equal(got, want) {
				t.Errorf("%s, put again: DirMore = %v, %v; want %v", why, got, ok, want)
			}
		}
	}
	for size := range 60 {
		_, ok := impl.DirMore(nil, spots(spot(letters(size), 1, 1, 1)))
		if ok != (1 <= size && size <= 10) {
			t.Errorf("DirMore of a Key of %d bytes is %v", size, ok)
		}
	}
	for n := -3; n < 20010; n++ {
		for kind, s := range []impl.Spot{spot("a", n, 1, 1), spot("a", 1, n, 1), spot("a", 1, 1, n)} {
			if most := []int{999, 20000, 40}[kind]; n < most-2 && n > 10 || n > most+3 {
				continue
			}
			wantMore(t, "a number", nil, spots(s))
			wantMore(t, "a number", some, spots(s))
		}
	}
}

// A Value of no bytes is there; At says nothing of one that is gone.
func TestGoneIsSizeAlone(t *testing.T) {
	some := spots(spot("a", 1, 1, 1))
	for at := -2; at < 30; at++ {
		for seg := -2; seg < 4; seg++ {
			if got, ok := impl.DirMore(some, spots(spot("a", seg, at, -1))); !ok || len(got) != 0 {
				t.Errorf("gone, but At %d of %d: DirMore = %v, %v", at, seg, got, ok)
			}
		}
	}
	empty := spots(spot("a", 0, 0, 0))
	if got, ok := impl.DirMore(some, empty); !ok || !slices.Equal(got, empty) {
		t.Errorf("a Value of no bytes: DirMore = %v, %v", got, ok)
	}
	hintComesBack(t, "a Value of no bytes", empty)
}

func TestDirectoriesUpToMaxPairs(t *testing.T) {
	full := dirOfMany("k", 60)
	for n := range 101 {
		list := dirOfMany("k", n)
		got, ok := impl.DirMore(nil, list)
		if ok != (n <= 60) || ok && !slices.Equal(got, list) || !ok && len(got) != 0 {
			t.Errorf("DirMore of %d Spots = %d, %v", n, len(got), ok)
		}
		wantMore(t, "one for each", full, append(goneOfMany(full[:min(n, 60)]), dirOfMany("l", n)...))
		wantMore(t, "one for each, and more", full, append(goneOfMany(full[:min(n, 60)]), dirOfMany("l", n+1)...))
		wantMore(t, "too many in between", full, append(dirOfMany("l", n), goneOfMany(full[:min(n, 60)])...))
		wantMore(t, "so many more", dirOfMany("k", 60-n%61), dirOfMany("l", n%61))
		wantMore(t, "so many and one more", dirOfMany("k", 60-n%61), dirOfMany("l", n%61+1))
	}
	wantNoMore(t, "one more behind", full, spots(spot("z", 1, 1, 1)))
	wantNoMore(t, "one more ahead", full, spots(spot("a", 1, 1, 1)))
	wantNoMore(t, "one for one that is not there", full, spots(spotGone("a", 1), spot("z", 1, 1, 1)))
	wantNoMore(t, "MaxPairs + 1 that come in, one gone", dirOfMany("k", 61), spots(spotGone("k00", 1)))
	if got, ok := impl.DirMore(full, slices.Repeat(full, 50)); !ok || !slices.Equal(got, full) {
		t.Errorf("a long list of the same Keys: DirMore = %d Spots, %v", len(got), ok)
	}
	many := slices.Concat(full, dirOfMany("l", 60), goneOfMany(full))
	if got, ok := impl.DirMore(nil, many); !ok || !slices.Equal(got, dirOfMany("l", 60)) {
		t.Errorf("MaxPairs for MaxPairs: DirMore = %d Spots, %v", len(got), ok)
	}
}

func TestHintBytes(t *testing.T) {
	for _, c := range []struct {
		dir   []impl.Spot
		inner string
	}{
		{nil, "\x00"},
		{spots(), "\x00"},
		{spots(spot("a", 3, 11, 2)), "\x01\x01a\x03\x0b\x02"},
		{spots(spot("a", 0, 0, 0)), "\x01\x01a\x00\x00\x00"},
		{spots(spot("a", 127, 128, 40), spot("bc", 999, 20000, 0)), "\x02\x01a\x7f\x80\x01\x28\x02bc\xe7\x07\xa0\x9c\x01\x00"},
		{spots(spot(letters(10), 300, 16384, 1)), "\x01\x0axxxxxxxxxx\xac\x02\x80\x80\x01\x01"},
	} {
		want := plainSealed(c.inner)
		if text, ok := impl.HintText(c.dir); !ok || text != want {
			t.Errorf("HintText(%v) = %q, %v; want %q", c.dir, text, ok, want)
		}
		if dir, ok := impl.ReadHint(want); !ok || !slices.Equal(dir, c.dir) {
			t.Errorf("ReadHint(%q) = %v, %v; want %v", want, dir, ok, c.dir)
		}
	}
}

func TestHintsComeBack(t *testing.T) {
	for why, dir := range rightDirs() {
		hintComesBack(t, why, dir)
	}
	for n := range 61 {
		hintComesBack(t, "so many", dirOfMany("k", n))
	}
	for n := range 20001 {
		if n < 1000 || n%37 == 0 || n > 19990 {
			hintComesBack(t, "numbers", spots(spot("a", n%1000, n, n%41), spot("b", 999-n%1000, 20000-n, 40-n%41)))
		}
	}
	for size := 1; size <= 10; size++ {
		hintComesBack(t, "a Key", spots(spot(letters(size), 1, 1, 1), spot(strings.Repeat("\xff", size), 1, 1, 1)))
	}
	for b := range 256 {
		hintComesBack(t, "a byte as Key", spots(spot(string([]byte{byte(b)}), 1, 1, 1)))
	}
}

func TestWrongDirectoriesHaveNoHint(t *testing.T) {
	for why, dir := range wrongDirs() {
		if text, ok := impl.HintText(dir); ok || text != "" {
			t.Errorf("%s: HintText = %.60q, %v; want nothing, false", why, text, ok)
		}
		if hasHint(dir) {
			wantNoHint(t, why, plainHint(dir))
		}
	}
}

func TestHintWithAByteTurned(t *testing.T) {
	for why, dir := range rightDirs() {
		text := plainHint(dir)
		for at := range len(text) {
			for by := 1; by < 256; by++ {
				if len(text) < 100 || by&(by-1) == 0 || by == 255 {
					wantNoHint(t, why+", a byte turned", turned(text, at, by))
				}
			}
		}
	}
}

// A byte that is turned ahead of the seal may leave another directory.
func TestHintSealedAnew(t *testing.T) {
	for _, dir := range [][]impl.Spot{nil, spots(spot("a", 3, 11, 2)), spots(spot("a", 127, 128, 40), spot("bc", 999, 20000, 0), spot("c", 1, 2, 3))} {
		inner := plainHintInner(dir)
		for at := range len(inner) {
			for by := range 256 {
				wantHint(t, "turned and sealed", plainSealed(turned(inner, at, by)))
			}
		}
	}
}

func TestHintCutAtEveryByte(t *testing.T) {
	for why, dir := range rightDirs() {
		text, inner := plainHint(dir), plainHintInner(dir)
		for at := range len(text) {
			wantNoHint(t, why+", cut", text[:at])
			wantNoHint(t, why+", without its beginning", text[at+1:])
		}
		for at := range len(inner) {
			wantNoHint(t, why+", too few bytes, sealed", plainSealed(inner[:at]))
			wantHint(t, why+", without its beginning, sealed", plainSealed(inner[at+1:]))
			wantHint(t, why+", without one byte, sealed", plainSealed(inner[:at]+inner[at+1:]))
		}
	}
}

func TestBytesBehindADirectory(t *testing.T) {
	for why, dir := range rightDirs() {
		text, inner := plainHint(dir), plainHintInner(dir)
		for more := range 256 {
			b := string([]byte{byte(more)})
			wantNoHint(t, why+", a byte behind", text+b)
			wantNoHint(t, why+", a byte ahead", b+text)
			wantNoHint(t, why+", a byte behind, sealed", plainSealed(inner+b))
		}
		wantNoHint(t, why+", twice", text+text)
		wantNoHint(t, why+", twice, sealed", plainSealed(inner+inner))
		wantNoHint(t, why+", sealed twice", plainSealed(text))
	}
	inner := plainHintInner(dirOfMany("k", 60))
	for _, size := range []int{100, 20000 - len(inner), 20001 - len(inner), 100000} {
		wantNoHint(t, "much behind", plainSealed(inner+letters(size)))
		wantNoHint(t, "much behind, of noughts", plainSealed(inner+strings.Repeat("\x00", size)))
	}
}

func TestHintNumbersInALongerForm(t *testing.T) {
	inner := "\x02\x01a\x03\x0b\x02\x01b\x00\x05\x28"
	if _, ok := impl.ReadHint(plainSealed(inner)); !ok {
		t.Error("the form that is not longer is no hint")
	}
	for at := range len(inner) {
		if at != 2 && at != 7 {
			wantNoHint(t, "a longer form", plainSealed(longer(inner, at)))
		}
		wantNoHint(t, "a number without an end", plainSealed(inner[:at]+strings.Repeat("\x80", 50)))
		wantNoHint(t, "a number without an end, of 255", plainSealed(inner[:at]+strings.Repeat("\xff", 50)))
	}
	wantNoHint(t, "a longer form of none", plainSealed("\x80\x00"))
	wantNoHint(t, "a longer form of Seg 128", plainSealed("\x01\x01a\x80\x81\x00\x01\x01"))
	wantNoHint(t, "a longer form of At 20000", plainSealed("\x01\x01a\x01\xa0\x9c\x81\x00\x01"))
	wantNoHint(t, "a far longer form", plainSealed("\x81\x80\x80\x80\x80\x00\x01a\x00\x00\x00"))
}

func TestASpotThatIsNotRightInAHint(t *testing.T) {
	for _, n := range []int{0, 1, 39, 40, 41, 127, 128, 998, 999, 1000, 19999, 20000, 20001, 100000, 1000000000, 1000000001} {
		for kind, s := range []impl.Spot{spot("a", n, 1, 1), spot("a", 1, n, 1), spot("a", 1, 1, n)} {
			text := plainHint(spots(s))
			wantHint(t, "a number", text)
			_, ok := impl.ReadHint(text)
			if ok != (n <= []int{999, 20000, 40}[kind]) {
				t.Errorf("ReadHint of %v is %v", s, ok)
			}
			wantHint(t, "a number, last", plainHint(spots(spot("A", 1, 1, 1), s)))
			wantHint(t, "a number, first", plainHint(spots(s, spot("b", 1, 1, 1))))
		}
	}
	for size := range 60 {
		_, ok := impl.ReadHint(plainHint(spots(spot(letters(size), 1, 1, 1))))
		if ok != (1 <= size && size <= 10) {
			t.Errorf("ReadHint of a Key of %d bytes is %v", size, ok)
		}
	}
	for _, size := range []int{2, 10, 11, 127, 128, 20000, 20001, 1000000000} {
		wantNoHint(t, "a Key past the end", plainSealed("\x01"+plainLength(size)+"a"))
	}
}

func TestANumberOfSpotsThatIsNotTheirs(t *testing.T) {
	for n := range 64 {
		behind := plainHintInner(dirOfMany("k", n))[1:]
		for _, told := range []int{0, n - 1, n + 1, 2 * n, 59, 60, 61, 62, 127, 128, 1000, 1000000000} {
			if told >= 0 && told != n {
				wantNoHint(t, "so many are told", plainSealed(plainLength(told)+behind))
			}
		}
		wantHint(t, "as many as there are", plainSealed(plainLength(n)+behind))
	}
}

func TestTextsOfNoHint(t *testing.T) {
	dir := spots(spot("a", 3, 11, 2), spot("b", 0, 5, 40))
	inner := plainHintInner(dir)
	seal := plainSeal(inner)
	wantNoHint(t, "an empty text", "")
	wantNoHint(t, "an empty text, sealed", plainSealed(""))
	wantNoHint(t, "not sealed", inner)
	wantNoHint(t, "none, not sealed", "\x00")
	wantNoHint(t, "the seal alone", seal)
	wantNoHint(t, "the seal ahead", seal+inner)
	wantNoHint(t, "the seal the other way round", inner+string([]byte{seal[3], seal[2], seal[1], seal[0]}))
	wantNoHint(t, "a seal of noughts", inner+"\x00\x00\x00\x00")
	wantNoHint(t, "another one's seal", inner+plainSeal(plainHintInner(dir[:1])))
	wantNoHint(t, "a frame", plainFrame(inner))
	wantNoHint(t, "a frame, sealed", plainSealed(plainFrame(inner)))
	wantNoHint(t, "words", "no directory at all")
	wantNoHint(t, "words, sealed", plainSealed("no directory at all"))
	wantNoHint(t, "a manifest", plainManifestText(ordinary()))
	wantNoHint(t, "a batch, sealed", plainSealed(plainBatchText(batchOf(2, set("a", "x")))))
	for _, size := range []int{1, 4, 5, 11, 100, 20000, 20001, 100000} {
		for b := range 256 {
			if size < 20000 || b%51 == 0 {
				same := strings.Repeat(string([]byte{byte(b)}), size)
				wantNoHint(t, "one byte repeated", same)
				wantHint(t, "one byte repeated, sealed", plainSealed(same))
			}
		}
	}
}

func TestHintsOfEveryShortText(t *testing.T) {
	right := 0
	texts := []string{""}
	for range 8 {
		var more []string
		for _, text := range texts {
			for _, b := range []byte{0, 1, 2, 128} {
				more = append(more, text+string([]byte{b}))
			}
		}
		for _, text := range more {
			wantHint(t, "a short text", plainSealed(text))
			if _, ok := impl.ReadHint(plainSealed(text)); ok {
				right++
			}
		}
		texts = more
	}
	if right < 100 {
		t.Errorf("%d of the short texts are hints", right)
	}
}

// drawnDir is right.
func drawnDir(d *drawing) []impl.Spot {
	byKey := map[string]impl.Spot{}
	for range d.below([]int{3, 10, 61}[d.below(3)]) {
		key := d.bytes(9) + string([]byte{byte(d.below(256))})
		seg := d.below([]int{3, 200, 1000}[d.below(3)])
		at := d.below([]int{3, 300, 20001}[d.below(3)])
		byKey[key] = spot(key, seg, at, d.below(41))
	}
	var dir []impl.Spot
	for _, s := range byKey {
		dir = append(dir, s)
	}
	slices.SortFunc(dir, func(a, b impl.Spot) int { return strings.Compare(a.Key, b.Key) })
	return dir
}

func TestDrawnDirectories(t *testing.T) {
	d := &drawing{state: 14}
	for range 3000 {
		dir := drawnDir(d)
		if !plainDirOk(dir) || !impl.DirOk(dir) {
			t.Errorf("DirOk(%.120v) is false", dir)
		}
		hintComesBack(t, "a drawn one", dir)
	}
}

func TestDrawnHintsWithAByteTurned(t *testing.T) {
	d := &drawing{state: 15}
	for i := range 400 {
		text := plainHint(drawnDir(d))
		for at := range len(text) {
			wantNoHint(t, "a byte turned", turned(text, at, 1+d.below(255)))
			if len(text) < 60 && i < 100 {
				for by := 1; by < 256; by++ {
					wantNoHint(t, "a byte turned", turned(text, at, by))
				}
			}
		}
	}
}

func TestDrawnHints(t *testing.T) {
	d := &drawing{state: 16}
	for range 6000 {
		inner := plainHintInner(drawnDir(d))
		at := d.below(len(inner))
		switch d.below(4) {
		case 0:
			inner = turned(inner, at, d.below(256))
		case 1:
			inner = inner[:at] + inner[min(at+1+d.below(3), len(inner)):]
		case 2:
			inner = inner[:at] + d.bytes(3) + inner[at:]
		case 3:
			inner = inner[:at+1]
		}
		wantHint(t, "a drawn text", plainSealed(inner))
	}
}

// spoiledDir is dir with one thing else, which may leave a right one.
func spoiledDir(d *drawing, dir []impl.Spot) []impl.Spot {
	dir = slices.Clone(dir)
	if len(dir) == 0 {
		return spots(impl.Spot{})
	}
	odd := []int{-2, -1, 0, 40, 41, 999, 1000, 20000, 20001}[d.below(9)]
	i, j := d.below(len(dir)), d.below(len(dir))
	switch d.below(6) {
	case 0:
		dir[i].Seg = odd
	case 1:
		dir[i].At = odd
	case 2:
		dir[i].Size = odd
	case 3:
		dir[i].Key = letters(d.below(13))
	case 4:
		dir[i], dir[j] = dir[j], dir[i]
	case 5:
		dir[i].Key = dir[j].Key
	}
	return dir
}

func TestDrawnDirectoriesSpoiled(t *testing.T) {
	d := &drawing{state: 17}
	right := 0
	for range 6000 {
		dir := spoiledDir(d, drawnDir(d))
		ok := impl.DirOk(dir)
		if ok != plainDirOk(dir) {
			t.Errorf("DirOk(%.120v) = %v", dir, ok)
		}
		if ok {
			right++
			hintComesBack(t, "spoiled, but right", dir)
		} else if text, ok := impl.HintText(dir); ok || text != "" {
			t.Errorf("HintText(%.120v) = %.60q, %v", dir, text, ok)
		}
		if hasHint(dir) {
			wantHint(t, "spoiled", plainHint(dir))
		}
		list := spoiledDir(d, drawnDir(d))
		wantMore(t, "spoiled", dir, list)
		wantMore(t, "a spoiled list", drawnDir(d), list)
	}
	if right < 600 || right > 5400 {
		t.Errorf("%d of the spoiled ones are right", right)
	}
}

// wantMapSaid asks that what dir says of each Key is its value, and that it has
// no Key but those.
func wantMapSaid(t *testing.T, why string, dir []impl.Spot, texts []string, values map[string]string) {
	t.Helper()
	if len(dir) != len(values) {
		t.Errorf("%s: the directory has %d Keys; the map has %d", why, len(dir), len(values))
	}
	for _, s := range dir {
		value, there := values[s.Key]
		if got := texts[s.Seg][s.At : s.At+s.Size]; !there || got != value {
			t.Errorf("%s: %v says %q; want %q, %v", why, s, got, value, there)
		}
	}
	hintComesBack(t, why, dir)
}

func doneToValues(values map[string]string, batches []impl.Batch) {
	for _, b := range batches {
		for _, c := range b.Changes {
			if c.Gone {
				delete(values, c.Key)
			} else {
				values[c.Key] = c.Value
			}
		}
	}
}

// A shelf of drawn segments, read one behind the other, and all at once.
func TestDirectoriesSayTheMapOfTheSameBatches(t *testing.T) {
	d := &drawing{state: 18}
	kept, refused := 0, 0
	for range 1200 {
		keys := []int{10, 40, 250}[d.below(3)]
		values := map[string]string{}
		var dir, all []impl.Spot
		var texts []string
		for seg := range 1 + d.below(8) {
			batches := drawnSegment(d, 3, keys)
			texts = append(texts, segmentOf(batches...)+[]string{"", "torn"}[d.below(2)])
			doneToValues(values, batches)
			list, _, _ := impl.ScanSeg(texts[seg], seg)
			all = append(all, list...)
			more, ok := impl.DirMore(dir, list)
			if ok != (len(values) <= 60) {
				t.Errorf("DirMore of %d Keys is %v", len(values), ok)
			}
			if !ok {
				refused++
				break
			}
			dir = more
			kept++
			wantMapSaid(t, "one by one", dir, texts, values)
		}
		if at, ok := impl.DirMore(nil, all); len(values) <= 60 && (!ok || !slices.Equal(at, dir)) || len(values) > 60 && ok {
			t.Errorf("all at once: DirMore = %.120v, %v; want %.120v", at, ok, dir)
		}
	}
	if kept < 1000 || refused < 30 {
		t.Errorf("%d directories are kept, %d refused", kept, refused)
	}
}

// A value that is gone in a later segment is gone, and is back where it is put
// again.
func TestAValueThatIsGone(t *testing.T) {
	batches := []impl.Batch{
		batchOf(1, set("a", "first"), set("b", "stays")),
		batchOf(2, gone("a"), gone("never")),
		batchOf(3, set("a", "")),
		batchOf(4, gone("a")),
		batchOf(5, set("a", "again"), gone("b")),
		batchOf(6, gone("a")),
		batchOf(6, gone("a")),
	}
	want := []map[string]string{
		{"a": "first", "b": "stays"}, {"b": "stays"}, {"a": "", "b": "stays"},
		{"b": "stays"}, {"a": "again"}, {}, {},
	}
	var dir []impl.Spot
	var texts []string
	for seg, b := range batches {
		texts = append(texts, segmentOf(b))
		list, _, _ := impl.ScanSeg(texts[seg], seg)
		more, ok := impl.DirMore(dir, list)
		if !ok {
			t.Errorf("DirMore behind the segment %d is false", seg)
		}
		dir = more
		wantMapSaid(t, "a segment each", dir, texts, want[seg])
		whole := segmentOf(batches[:seg+1]...)
		list, _, _ = impl.ScanSeg(whole, 0)
		one, ok := impl.DirMore(nil, list)
		if !ok {
			t.Errorf("DirMore of %d batches is false", seg+1)
		}
		wantMapSaid(t, "one segment", one, []string{whole}, want[seg])
	}
}

func TestArgumentsOfDirectoriesStay(t *testing.T) {
	room := spots(spot("b", 1, 10, 1), spot("d", 2, 20, 2), spot("f", 3, 30, 3), spot("spare", 4, 4, 4), spotGone("z", 5))
	list := spots(spot("a", 1, 1, 1), spotGone("b", 9), spot("g", 2, 2, 2), spot("spare", 6, 6, 6), spot("", -1, -1, -1))
	keptRoom, keptList := slices.Clone(room), slices.Clone(list)
	for n := range 6 {
		for m := range 6 {
			impl.DirMore(room[:n], list[:m])
			impl.DirMore(list[:m], room[:n])
			impl.DirMore(nil, list[:m])
		}
		for _, dir := range [][]impl.Spot{room[:n], list[:n]} {
			impl.DirOk(dir)
			impl.HintText(dir)
			impl.DirMore(dir, nil)
			impl.DirMore(dir, dir)
		}
	}
	if !slices.Equal(room, keptRoom) || !slices.Equal(list, keptList) {
		t.Errorf("an argument is another now: %v, %v", room, list)
	}
}

func spotTexts(list []impl.Spot) []string {
	var texts []string
	for _, s := range list {
		texts = append(texts, s.Key)
	}
	return texts
}

func TestAnswersOfDirectoriesAreNewMemory(t *testing.T) {
	words := newWords("key", "longer", "kept", "middle", letters(10))
	dir := spots(spot(words[0], 1, 1, 1), spot(words[1], 2, 2, 2))
	list := spots(spot(words[2], 3, 3, 3), spot(words[3], 4, 4, 4), spot(words[4], 5, 5, 5))
	more, ok := impl.DirMore(dir, list)
	wantOwn(t, "DirMore", spotTexts(more), words)
	if !ok || len(more) != 5 {
		t.Errorf("DirMore = %v, %v", more, ok)
	}
	text, _ := impl.HintText(dir)
	wantOwn(t, "HintText", []string{text}, words)
	wantOwn(t, "HintText", words, []string{text})
	read, _ := impl.ReadHint(text)
	wantOwn(t, "ReadHint", spotTexts(read), []string{text})
	segment := segmentOf(batchOf(1, set("key", letters(40)), gone("longer")), batchOf(2, set("more", "x")))
	found, texts, _ := impl.ScanSeg(segment, 1)
	wantOwn(t, "ScanSeg", append(spotTexts(found), texts...), []string{segment})
	for at, one := range texts {
		wantOwn(t, "ScanSeg: a Spot", spotTexts(found), []string{one})
		wantOwn(t, "ScanSeg: a text", texts[at+1:], []string{one})
	}
}

// overwriteSpots writes into a list and into all the room behind it.
func overwriteSpots(list []impl.Spot) {
	for i := range list[:cap(list)] {
		list[:cap(list)][i] = spot("turned", -7, -7, -7)
	}
}

func TestListsOfDirectoriesAreNewMemory(t *testing.T) {
	dir := dirOfMany("k", 20)
	for _, list := range [][]impl.Spot{nil, dir[3:4], spots(spotGone("z", 1)), dirOfMany("l", 3)} {
		want, _ := plainDirMore(dir, list)
		first, _ := impl.DirMore(dir, list)
		second, _ := impl.DirMore(dir, list)
		overwriteSpots(first)
		if !slices.Equal(second, want) || !slices.Equal(dir, dirOfMany("k", 20)) {
			t.Errorf("DirMore answers a list that it keeps, or that came in: %.120v", second)
		}
	}
	text := plainHint(dir)
	first, _ := impl.ReadHint(text)
	overwriteSpots(first)
	if second, _ := impl.ReadHint(text); !slices.Equal(second, dir) {
		t.Error("ReadHint answers a list that it keeps")
	}
	segment := segmentOf(batchOfMany(20), batchOfMany(30))
	found, texts, _ := impl.ScanSeg(segment, 1)
	overwriteSpots(found)
	texts[0] = "turned"
	wantScan(t, "once more", segment, 1)
}

// What is told does not hang on the order in which Go goes through a map.
func TestDirectoriesAreToldTheSameEachTime(t *testing.T) {
	list := slices.Concat(dirOfMany("m", 20), dirOfMany("k", 20), dirOfMany("l", 20))
	first, _ := impl.DirMore(nil, list)
	for range 200 {
		if again, ok := impl.DirMore(nil, list); !ok || !slices.Equal(again, first) {
			t.Fatalf("DirMore tells another directory: %.120v", again)
		}
	}
}

func TestManyDirectoriesAtOnce(t *testing.T) {
	var all sync.WaitGroup
	dir, list := dirOfMany("k", 40), dirOfMany("l", 20)
	batches := []impl.Batch{batchOfMany(20), batchOf(5), batchOfMany(60)}
	text := segmentOf(batches...)
	for range 8 {
		all.Add(1)
		go func() {
			defer all.Done()
			for range 20 {
				wantMore(t, "at once", dir, list)
				hintComesBack(t, "at once", dir)
				wantSaid(t, "at once", text, batches)
			}
		}()
	}
	all.Wait()
}
