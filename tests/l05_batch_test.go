package tests

import (
	"slices"
	"strings"
	"sync"
	"testing"

	"loop.example/g00103/impl"
)

func set(key, value string) impl.Change { return impl.Change{Key: key, Value: value} }

func gone(key string) impl.Change { return impl.Change{Key: key, Gone: true} }

func batchOf(stamp int, changes ...impl.Change) impl.Batch {
	return impl.Batch{Stamp: stamp, Changes: changes}
}

// batchOfMany has this many changes, of which each third is gone.
func batchOfMany(n int) impl.Batch {
	b := impl.Batch{Stamp: n}
	for i := range n {
		key := "key" + string([]byte{byte('0' + i/10), byte('0' + i%10)})
		if i%3 == 2 {
			b.Changes = append(b.Changes, gone(key))
		} else {
			b.Changes = append(b.Changes, set(key, letters(i%41)))
		}
	}
	return b
}

func sameBatch(a, b impl.Batch) bool {
	return a.Stamp == b.Stamp && slices.Equal(a.Changes, b.Changes)
}

func noBatch(b impl.Batch) bool { return b.Stamp == 0 && len(b.Changes) == 0 }

// plainBatchOk is the document's rule, each of its words over all changes.
func plainBatchOk(b impl.Batch) bool {
	right := 0 <= b.Stamp && b.Stamp <= 100000 && len(b.Changes) <= 60
	for i, c := range b.Changes {
		size := len(c.Key)
		right = right && size != 0 && size < 11 && len(c.Value) < 41
		right = right && !(c.Gone && len(c.Value) > 0)
		for _, other := range b.Changes[i+1:] {
			right = right && strings.Compare(c.Key, other.Key) < 0
		}
	}
	return right
}

func plainShort(s string) string { return plainLength(len(s)) + s }

// plainBatchText is the rule of BatchText, also of batches that are not right.
func plainBatchText(b impl.Batch) string {
	text := plainLength(b.Stamp) + plainLength(len(b.Changes))
	for _, c := range b.Changes {
		flag := map[bool]string{true: "\x01", false: "\x00"}[c.Gone]
		text += plainShort(c.Key) + flag + plainShort(c.Value)
	}
	return text
}

// looseReader takes any bytes for what is asked for, as far as they go.
type looseReader struct{ rest string }

func (r *looseReader) some(n int) string {
	n = min(n, len(r.rest))
	s := r.rest[:n]
	r.rest = r.rest[n:]
	return s
}

func (r *looseReader) number() int {
	n := 0
	for shift := 0; shift < 28; shift += 7 {
		b := r.some(1)
		if b == "" {
			return n
		}
		n += int(b[0]%128) << shift
		if b[0] < 128 {
			return n
		}
	}
	return n
}

// plainReadBatch guesses a batch, and looks whether the text is that one's.
func plainReadBatch(text string) (impl.Batch, bool) {
	r := looseReader{rest: text}
	b := impl.Batch{Stamp: r.number()}
	for range min(r.number(), 61) {
		key := r.some(r.number())
		flag := r.some(1)
		value := r.some(r.number())
		b.Changes = append(b.Changes, impl.Change{Key: key, Value: value, Gone: flag == "\x01"})
	}
	if !plainBatchOk(b) || plainBatchText(b) != text {
		return impl.Batch{}, false
	}
	return b, true
}

func wantBatch(t *testing.T, why string, text string) {
	t.Helper()
	b, ok := plainReadBatch(text)
	got, right := impl.ReadBatch(text)
	if right != ok || !sameBatch(got, b) {
		t.Errorf("%s: ReadBatch(%.60q of %d bytes) = %.80v, %v; want %.80v, %v", why, text, len(text), got, right, b, ok)
	}
}

func wantNoBatch(t *testing.T, why string, text string) {
	t.Helper()
	if got, ok := impl.ReadBatch(text); ok || !noBatch(got) {
		t.Errorf("%s: ReadBatch(%.60q of %d bytes) = %.80v, %v; want nothing, false", why, text, len(text), got, ok)
	}
}

func rightBatches() map[string]impl.Batch {
	high := "\xff\xff\xff\xff\xff\xff\xff\xff\xff\xff"
	return map[string]impl.Batch{
		"zero":                    {},
		"no changes":              batchOf(5),
		"an empty list":           {Stamp: 5, Changes: []impl.Change{}},
		"one change":              batchOf(1, set("a", "x")),
		"one that is gone":        batchOf(1, gone("a")),
		"some":                    batchOf(2, set("a", "x"), gone("b"), set("c", "z")),
		"an empty value":          batchOf(3, set("a", "")),
		"the least Stamp":         batchOf(0, set("a", "x")),
		"Stamp 127":               batchOf(127, set("a", "x")),
		"Stamp 128":               batchOf(128, set("a", "x")),
		"the greatest Stamp":      batchOf(100000, set("a", "x")),
		"MaxChanges":              batchOfMany(60),
		"one fewer":               batchOfMany(59),
		"Keys of 1 and 10 bytes":  batchOf(1, set("k", "x"), set(letters(10), "x")),
		"a longest Key gone":      batchOf(1, gone(letters(10))),
		"Values of 0 and 40":      batchOf(1, set("a", ""), set("b", letters(40)), set("c", letters(39))),
		"a beginning ahead":       batchOf(1, set("a", "x"), set("aa", "x"), set("aaa", "x"), set("ab", "x")),
		"bytes of 0":              batchOf(1, set("\x00", "\x00"), set("\x00\x00", "\x00\x00"), set("\x00\x01", "")),
		"bytes above 127":         batchOf(1, set("\x7f", "\x80"), set("\x80", "\xff"), gone("\xff"), set(high, high)),
		"above 127 behind letter": batchOf(1, set("a\x7f", ""), set("a\x80", ""), set("b", "")),
		"letters of many bytes":   batchOf(1, set("z", ""), set("\u00e4", "\u20ac"), set("\u20ac", "\u00e4")),
		"Values alike":            batchOf(1, set("a", "x"), set("b", "x"), set("c", "x")),
		"Value as Key":            batchOf(1, set("a", "b"), set("b", "a")),
		"all that are gone":       batchOf(1, gone("a"), gone("b"), gone("c")),
	}
}

func wrongBatches() map[string]impl.Batch {
	least := -1 << 63
	return map[string]impl.Batch{
		"Stamp -1":                  batchOf(-1),
		"Stamp -1 with a change":    batchOf(-1, set("a", "x")),
		"Stamp one too great":       batchOf(100001, set("a", "x")),
		"the least int":             batchOf(least, set("a", "x")),
		"the greatest int":          batchOf(-(least + 1), set("a", "x")),
		"a Change too many":         batchOfMany(61),
		"a hundred":                 batchOfMany(100),
		"an empty Key":              batchOf(1, set("", "x")),
		"an empty Key that is gone": batchOf(1, gone("")),
		"an empty Key behind":       batchOf(1, set("a", "x"), set("", "x")),
		"a Key of 11 bytes":         batchOf(1, set(letters(11), "x")),
		"a Key of 11 bytes, last":   batchOf(1, set("a", "x"), set(letters(11), "x")),
		"11 bytes, that is gone":    batchOf(1, gone(letters(11))),
		"a Key far too long":        batchOf(1, set(letters(20001), "x")),
		"a Value of 41 bytes":       batchOf(1, set("a", letters(41))),
		"a Value of 41 bytes, last": batchOf(1, set("a", "x"), set("b", letters(41))),
		"a Value far too long":      batchOf(1, set("a", letters(20001))),
		"a Value beside Gone":       batchOf(1, impl.Change{Key: "a", Value: "x", Gone: true}),
		"a Value beside Gone, last": batchOf(1, set("a", "x"), impl.Change{Key: "b", Value: "x", Gone: true}),
		"a byte 0 beside Gone":      batchOf(1, impl.Change{Key: "a", Value: "\x00", Gone: true}),
		"two Keys alike":            batchOf(1, set("a", "x"), set("a", "y")),
		"two Changes alike":         batchOf(1, set("a", "x"), set("a", "x")),
		"two alike, one gone":       batchOf(1, set("a", "x"), gone("a")),
		"the other way round":       batchOf(1, set("b", "x"), set("a", "x")),
		"last the other way round":  batchOf(1, set("a", "x"), set("c", "x"), set("b", "x")),
		"alike at a distance":       batchOf(1, set("a", "x"), set("b", "x"), set("a", "x")),
		"a beginning behind":        batchOf(1, set("aa", "x"), set("a", "x")),
		"above 127 ahead":           batchOf(1, set("\x80", "x"), set("\x7f", "x")),
		"above 127 alike":           batchOf(1, set("\xff", "x"), set("\xff", "x")),
		"many bytes ahead":          batchOf(1, set("\u00e4", "x"), set("z", "x")),
	}
}

func TestBatchLimits(t *testing.T) {
	if impl.MaxKey != 10 || impl.MaxValue != 40 || impl.MaxChanges != 60 || impl.MaxIndex != 100000 {
		t.Error("a limit of batches is not the document's")
	}
}

func TestBatchOk(t *testing.T) {
	for why, b := range rightBatches() {
		if !plainBatchOk(b) || !impl.BatchOk(b) {
			t.Errorf("%s: BatchOk is false", why)
		}
	}
	for why, b := range wrongBatches() {
		if plainBatchOk(b) || impl.BatchOk(b) {
			t.Errorf("%s: BatchOk is true", why)
		}
	}
}

func TestBatchBytes(t *testing.T) {
	for _, c := range []struct {
		batch impl.Batch
		text  string
	}{
		{impl.Batch{}, "\x00\x00"},
		{batchOf(5), "\x05\x00"},
		{batchOf(128), "\x80\x01\x00"},
		{batchOf(100000), "\xa0\x8d\x06\x00"},
		{batchOf(2, set("a", "x"), gone("b")), "\x02\x02\x01a\x00\x01x\x01b\x01\x00"},
		{batchOf(0, set("a", "")), "\x00\x01\x01a\x00\x00"},
		{batchOf(1, set("\x00", "\x01")), "\x01\x01\x01\x00\x00\x01\x01"},
		{batchOf(300, gone(letters(10))), "\xac\x02\x01\x0axxxxxxxxxx\x01\x00"},
		{batchOf(7, set("k", letters(40))), "\x07\x01\x01k\x00\x28" + letters(40)},
	} {
		if text, ok := impl.BatchText(c.batch); !ok || text != c.text {
			t.Errorf("BatchText(%v) = %q, %v; want %q", c.batch, text, ok, c.text)
		}
		if b, ok := impl.ReadBatch(c.text); !ok || !sameBatch(b, c.batch) {
			t.Errorf("ReadBatch(%q) = %v, %v; want %v", c.text, b, ok, c.batch)
		}
	}
}

func comesBack(t *testing.T, why string, b impl.Batch) {
	t.Helper()
	text, ok := impl.BatchText(b)
	if !ok || text != plainBatchText(b) {
		t.Errorf("%s: BatchText = %.60q, %v; want %.60q", why, text, ok, plainBatchText(b))
	}
	if got, ok := impl.ReadBatch(text); !ok || !sameBatch(got, b) {
		t.Errorf("%s: ReadBatch(%.60q) = %.80v, %v; want %.80v", why, text, got, ok, b)
	}
}

func TestBatchesComeBack(t *testing.T) {
	for why, b := range rightBatches() {
		comesBack(t, why, b)
	}
	for n := range 61 {
		comesBack(t, "so many", batchOfMany(n))
	}
	for stamp := 0; stamp <= 100000; stamp += 1 + stamp/60 {
		comesBack(t, "a Stamp", batchOf(stamp, set("a", "x")))
	}
	for size := range 41 {
		comesBack(t, "a Value", batchOf(1, set("a", letters(size)), set("b", strings.Repeat("\xff", size))))
	}
	for size := 1; size <= 10; size++ {
		comesBack(t, "a Key", batchOf(1, set(letters(size), "x"), gone(strings.Repeat("\xff", size))))
	}
}

func TestKeysOfEveryTwoBytes(t *testing.T) {
	for a := range 256 {
		for b := range 256 {
			two := batchOf(1, set(string([]byte{byte(a)}), "x"), gone(string([]byte{byte(b)})))
			if ok := impl.BatchOk(two); ok != (a < b) {
				t.Errorf("BatchOk of the Keys %d and %d = %v", a, b, ok)
			}
			wantBatch(t, "two Keys", plainBatchText(two))
		}
	}
}

func TestWrongBatchesHaveNoText(t *testing.T) {
	for why, b := range wrongBatches() {
		if text, ok := impl.BatchText(b); ok || text != "" {
			t.Errorf("%s: BatchText = %.60q, %v; want nothing, false", why, text, ok)
		}
	}
}

// What a wrong batch would be written as is no batch's text.
func TestTextsOfWrongBatches(t *testing.T) {
	for why, b := range wrongBatches() {
		if b.Stamp >= 0 {
			wantNoBatch(t, why, plainBatchText(b))
		}
	}
	wantNoBatch(t, "a greatest number as Stamp", plainLength(1000000000)+"\x00")
	wantNoBatch(t, "a number too great as Stamp", plainLength(1000000001)+"\x00")
}

func TestBatchTextCutAtEveryByte(t *testing.T) {
	for why, b := range rightBatches() {
		text := plainBatchText(b)
		for at := range len(text) {
			wantNoBatch(t, why+", cut", text[:at])
			wantBatch(t, why+", without its beginning", text[at+1:])
		}
	}
}

func TestBytesBehindABatch(t *testing.T) {
	for why, b := range rightBatches() {
		text := plainBatchText(b)
		for more := range 256 {
			wantNoBatch(t, why+", a byte behind", text+string([]byte{byte(more)}))
		}
		wantNoBatch(t, why+", twice", text+text)
	}
}

func TestGoneIsOneOfTwoBytes(t *testing.T) {
	for flag := range 256 {
		text := "\x02\x01\x01a" + string([]byte{byte(flag)}) + "\x00"
		b, ok := impl.ReadBatch(text)
		if ok != (flag < 2) || ok && b.Changes[0].Gone != (flag == 1) || !ok && !noBatch(b) {
			t.Errorf("ReadBatch(%q) = %v, %v", text, b, ok)
		}
		text = "\x02\x02\x01a\x01\x00\x01b" + string([]byte{byte(flag)}) + "\x01x"
		if b, ok := impl.ReadBatch(text); ok != (flag == 0) || !ok && !noBatch(b) {
			t.Errorf("ReadBatch(%q) = %v, %v", text, b, ok)
		}
	}
	wantNoBatch(t, "Gone in a longer form", "\x02\x01\x01a\x81\x00\x00")
	wantNoBatch(t, "no Gone", "\x02\x01\x01a\x80\x00\x00")
}

// longer has the number of one byte at this place in a form of two.
func longer(text string, at int) string {
	return text[:at] + string([]byte{text[at] + 128}) + "\x00" + text[at+1:]
}

func TestNumbersInALongerForm(t *testing.T) {
	text := "\x02\x02\x01a\x00\x01x\x01b\x01\x00"
	for _, at := range []int{0, 1, 2, 5, 7, 10} {
		wantNoBatch(t, "a longer form", longer(text, at))
	}
	wantNoBatch(t, "a longer form of Stamp", "\xa0\x8d\x86\x00\x00")
	wantNoBatch(t, "a far longer form", "\x82\x80\x80\x80\x80\x80\x00\x00")
	wantNoBatch(t, "a Stamp without an end", strings.Repeat("\x80", 50))
	wantNoBatch(t, "a number of Changes without an end", "\x02"+strings.Repeat("\xff", 50))
}

func TestANumberOfChangesThatIsNotTheirs(t *testing.T) {
	for n := range 62 {
		b := batchOfMany(n)
		changes := plainBatchText(b)[2:]
		for _, told := range []int{0, n - 1, n + 1, 2 * n, 60, 61, 62, 127, 128, 1000, 1000000000} {
			if told >= 0 && told != n {
				wantNoBatch(t, "so many are told", plainLength(b.Stamp)+plainLength(told)+changes)
			}
		}
	}
}

func TestLengthsPastTheEnd(t *testing.T) {
	for _, size := range []int{2, 10, 11, 127, 128, 20000, 20001, 1000000000} {
		wantNoBatch(t, "a Key past the end", "\x02\x01"+plainLength(size)+"a")
		wantNoBatch(t, "a Value past the end", "\x02\x01\x01a\x00"+plainLength(size)+"x")
	}
}

func TestTextsOfNoBatch(t *testing.T) {
	wantNoBatch(t, "an empty text", "")
	wantNoBatch(t, "words", "no batch at all")
	wantNoBatch(t, "figures", "2 1 a 0 x")
	wantNoBatch(t, "a frame", plainFrame(plainBatchText(batchOf(2, set("a", "x")))))
	wantNoBatch(t, "a sealed one", plainSealed(plainBatchText(batchOf(2, set("a", "x")))))
	for _, size := range []int{1, 3, 100, 20000, 20001, 100000} {
		for b := range 256 {
			if size < 20000 || b%51 == 0 {
				wantNoBatch(t, "one byte repeated", strings.Repeat(string([]byte{byte(b)}), size))
			}
		}
	}
	whole := plainBatchText(batchOfMany(60))
	wantNoBatch(t, "a long text behind", whole+letters(20001-len(whole)))
	wantNoBatch(t, "a longer one behind", whole+letters(100000))
}

func TestBatchesOfEveryShortText(t *testing.T) {
	bytes := []byte{0, 1, 2, 'a', 128}
	texts := []string{""}
	for range 7 {
		var more []string
		for _, text := range texts {
			for _, b := range bytes {
				more = append(more, text+string([]byte{b}))
			}
		}
		for _, text := range more {
			wantBatch(t, "a short text", text)
		}
		texts = more
	}
}

func TestABatchTextWithAByteTurned(t *testing.T) {
	for _, b := range []impl.Batch{
		batchOf(5),
		batchOf(2, set("a", "x"), gone("b"), set("c", "zz")),
		batchOf(100000, set("a", ""), set("ab", letters(40)), gone(letters(10))),
	} {
		text := plainBatchText(b)
		for at := range len(text) {
			for by := 1; by < 256; by++ {
				wantBatch(t, "a byte turned", turned(text, at, by))
			}
		}
	}
}

// drawing draws the same numbers each time from where it begins.
type drawing struct{ state uint32 }

func (d *drawing) below(n int) int {
	d.state = d.state*1664525 + 1013904223
	return int(d.state>>8) % n
}

func (d *drawing) bytes(most int) string {
	text := make([]byte, d.below(most+1))
	for at := range text {
		text[at] = byte(d.below(256))
	}
	return string(text)
}

// drawnBatch is right, most of the time.
func drawnBatch(d *drawing) impl.Batch {
	b := impl.Batch{Stamp: d.below(100000 + 100)}
	for range d.below([]int{3, 10, 66}[d.below(3)]) {
		c := impl.Change{Key: d.bytes(10), Value: d.bytes(40)}
		if d.below(3) == 0 {
			c.Gone, c.Value = true, ""
		}
		b.Changes = append(b.Changes, c)
	}
	slices.SortFunc(b.Changes, func(x, y impl.Change) int { return strings.Compare(x.Key, y.Key) })
	if n := len(b.Changes); n > 1 && d.below(4) == 0 {
		i, j := d.below(n), d.below(n)
		b.Changes[i], b.Changes[j] = b.Changes[j], b.Changes[i]
	}
	return b
}

func TestDrawnBatches(t *testing.T) {
	d := &drawing{state: 5}
	right := 0
	for range 4000 {
		b := drawnBatch(d)
		ok := impl.BatchOk(b)
		if ok != plainBatchOk(b) {
			t.Errorf("BatchOk(%.200v) = %v", b, ok)
		}
		if ok {
			right++
			comesBack(t, "a drawn one", b)
		} else if text, ok := impl.BatchText(b); ok || text != "" {
			t.Errorf("BatchText(%.200v) = %.60q, %v", b, text, ok)
		}
		wantBatch(t, "a drawn one", plainBatchText(b))
	}
	if right < 500 || right > 3500 {
		t.Errorf("%d of the drawn ones are right", right)
	}
}

func TestDrawnBatchTexts(t *testing.T) {
	d := &drawing{state: 6}
	for range 6000 {
		text := plainBatchText(drawnBatch(d))
		for range 1 + d.below(2) {
			at := d.below(len(text))
			switch d.below(4) {
			case 0:
				text = turned(text, at, d.below(256))
			case 1:
				text = text[:at] + text[min(at+1+d.below(3), len(text)):]
			case 2:
				text = text[:at] + d.bytes(3) + text[at:]
			case 3:
				text = text[:at+1]
			}
			text += map[bool]string{true: "\x00", false: ""}[text == ""]
		}
		wantBatch(t, "a drawn text", text)
	}
}

func TestArgumentsOfBatchesStay(t *testing.T) {
	room := []impl.Change{set("a", "x"), gone("b"), set("spare", "room"), gone("more")}
	kept := slices.Clone(room)
	b := impl.Batch{Stamp: 2, Changes: room[:2]}
	impl.BatchOk(b)
	impl.BatchText(b)
	wrong := impl.Batch{Stamp: -1, Changes: room[:2]}
	impl.BatchOk(wrong)
	impl.BatchText(wrong)
	if !slices.Equal(room, kept) {
		t.Errorf("the changes are %v now", room)
	}
}

func TestAnswersOfBatchesAreNewMemory(t *testing.T) {
	key, value := strings.Clone("key"), strings.Clone(letters(40))
	text, _ := impl.BatchText(batchOf(2, set(key, value)))
	for _, piece := range []string{key, value} {
		if within(text, piece) || within(piece, text) {
			t.Error("BatchText answers memory of its argument")
		}
	}
	text = plainBatchText(batchOf(2, set("a", "x"), set("b", letters(40)), gone(letters(10))))
	b, _ := impl.ReadBatch(text)
	for _, c := range b.Changes {
		if within(c.Key, text) || within(c.Value, text) {
			t.Errorf("ReadBatch answers a piece of its text: %v", c)
		}
	}
	again, _ := impl.ReadBatch(text)
	again.Changes[0].Key = "changed"
	if b.Changes[0].Key != "a" {
		t.Error("two answers share one list")
	}
}

func TestBatchesOfManyAtOnce(t *testing.T) {
	b := batchOfMany(60)
	text := plainBatchText(b)
	good := make([]int, 32)
	var all sync.WaitGroup
	for i := range good {
		all.Add(1)
		go func() {
			defer all.Done()
			got, ok := impl.ReadBatch(text)
			_, none := impl.ReadBatch(text[:len(text)-1-i])
			written, _ := impl.BatchText(b)
			if ok && sameBatch(got, b) && !none && written == text {
				good[i]++
			}
		}()
	}
	all.Wait()
	if slices.Contains(good, 0) {
		t.Error("one of many is told otherwise")
	}
}
