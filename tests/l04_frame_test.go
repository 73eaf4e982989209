package tests

import (
	"slices"
	"strings"
	"sync"
	"testing"

	"loop.example/g00103/impl"
)

// plainLength is the document's rule of VarText, without its limit.
func plainLength(n int) string {
	if n <= 127 {
		return string([]byte{byte(n)})
	}
	return string([]byte{byte(n%128 + 128)}) + plainLength(n/128)
}

func plainSeal(text string) string { return plainSealed(text)[len(text):] }

// plainFrame is the rule of Frame without its limits.
func plainFrame(text string) string { return plainLength(len(text)) + plainSeal(text) + text }

func plainFrames(records ...string) string {
	file := ""
	for _, r := range records {
		file += plainFrame(r)
	}
	return file
}

// plainFirst looks for the record whose frame file begins with by trying every
// length that a record may have.
func plainFirst(file string) (string, bool) {
	for size := 1; size <= 9000; size++ {
		length := plainLength(size)
		begin := len(length) + 4
		if begin+size > len(file) {
			return "", false
		}
		record := file[begin : begin+size]
		if strings.HasPrefix(file, length) && strings.HasPrefix(file, plainFrame(record)) {
			return record, true
		}
	}
	return "", false
}

func plainUnframe(file string) ([]string, int) {
	if len(file) > 20000 {
		return nil, 0
	}
	var records []string
	at := 0
	for {
		record, ok := plainFirst(file[at:])
		if !ok {
			return records, at
		}
		records = append(records, record)
		at += len(plainFrame(record))
	}
}

func wantRecords(t *testing.T, why string, file string, records []string, end int) {
	t.Helper()
	got, behind := impl.Unframe(file)
	if !slices.Equal(got, records) || behind != end {
		t.Errorf("%s: Unframe(%.60q of %d bytes) = %.60q (%d of them), %d; want %.60q (%d of them), %d",
			why, file, len(file), got, len(got), behind, records, len(records), end)
	}
}

// wantAhead looks for just the records ahead of wrong bytes, alone and with
// whole frames behind.
func wantAhead(t *testing.T, why string, wrong string) {
	t.Helper()
	ahead := []string{"one", letters(200)}
	begin := plainFrames(ahead...)
	for _, more := range []string{"", plainFrame("behind"), plainFrames("a", letters(300), "b")} {
		wantRecords(t, why+", first", wrong+more, nil, 0)
		wantRecords(t, why+", behind one", plainFrame("one")+wrong+more, []string{"one"}, 8)
		wantRecords(t, why+", behind two", begin+wrong+more, ahead, len(begin))
	}
}

// turned has the byte at this place of text exclusive-or by.
func turned(text string, at int, by int) string {
	return text[:at] + string([]byte{text[at] ^ byte(by)}) + text[at+1:]
}

func recordsToTry() []string {
	list := []string{"\x80", "\x00\x00\x00\x00\x00", "one", plainFrame("one"), plainFrame("")}
	for _, text := range textsToTry() {
		if text != "" {
			list = append(list, text)
		}
	}
	for _, size := range []int{1, 2, 126, 127, 128, 129, 255, 256, 8999, 9000} {
		list = append(list, letters(size), strings.Repeat("\x00", size), strings.Repeat("\xff", size))
	}
	return list
}

func TestFrameLimits(t *testing.T) {
	if impl.MaxRecord != 9000 {
		t.Error("MaxRecord is not the document's")
	}
}

func TestFrameBytes(t *testing.T) {
	// From 4294967295 and the byte 255 the eight halvings meet no odd number.
	if f, ok := impl.Frame("\xff"); !ok || f != "\x01\x00\xff\xff\xff\xff" {
		t.Errorf("Frame(%q) = %q, %v: the highest byte of the sum stands first", "\xff", f, ok)
	}
	for _, record := range recordsToTry() {
		if f, ok := impl.Frame(record); !ok || f != plainFrame(record) {
			t.Errorf("Frame of %d bytes = %.20q, %v; want %.20q", len(record), f, ok, plainFrame(record))
		}
	}
}

func TestFrameOfEachSize(t *testing.T) {
	whole := strings.Repeat(allBytes(), 36)
	for size := 1; size <= 9000; size++ {
		if size > 300 && size < 8900 && size%97 != 0 {
			continue
		}
		head := 5
		if size > 127 {
			head = 6
		}
		f, ok := impl.Frame(whole[:size])
		if !ok || len(f) != head+size || f[head:] != whole[:size] {
			t.Errorf("Frame of %d bytes has %d bytes, %v", size, len(f), ok)
		}
		wantRecords(t, "one frame", f, []string{whole[:size]}, head+size)
	}
}

func TestFrameRefuses(t *testing.T) {
	for _, size := range []int{0, 9001, 9002, 16383, 16384, 20000, 20001, 40000} {
		if f, ok := impl.Frame(letters(size)); ok || f != "" {
			t.Errorf("Frame of %d bytes = %d bytes, %v; want none", size, len(f), ok)
		}
	}
}

func TestRecordsComeBack(t *testing.T) {
	for _, first := range recordsToTry() {
		f, ok := impl.Frame(first)
		if !ok {
			t.Fatalf("Frame refuses %d bytes", len(first))
		}
		wantRecords(t, "one record", f, []string{first}, len(f))
		for _, second := range recordsToTry() {
			g, _ := impl.Frame(second)
			wantRecords(t, "two records", f+g, []string{first, second}, len(f)+len(g))
		}
	}
}

func TestManyRecordsComeBack(t *testing.T) {
	for _, count := range []int{0, 1, 3, 100, 3333} {
		records := slices.Repeat([]string{"r"}, count)
		file := strings.Repeat(plainFrame("r"), count)
		wantRecords(t, "records that are alike", file, records, 6*count)
	}
	var records []string
	file := ""
	for size := 1; size <= 180; size++ {
		record := strings.Repeat(string([]byte{byte(size)}), size)
		f, _ := impl.Frame(record)
		records = append(records, record)
		file += f
	}
	wantRecords(t, "records of ever more bytes", file, records, len(file))
}

func TestUnframeOfNoBytes(t *testing.T) {
	wantRecords(t, "a file of no bytes", "", nil, 0)
}

// cutAnywhere holds every beginning of a file against the frames that are
// whole in it.
func cutAnywhere(t *testing.T, records []string) {
	t.Helper()
	file := plainFrames(records...)
	whole, end := 0, 0
	for cut := 0; cut <= len(file); cut++ {
		if whole < len(records) && cut == end+len(plainFrame(records[whole])) {
			end = cut
			whole++
		}
		wantRecords(t, "cut", file[:cut], records[:whole], end)
	}
	if whole != len(records) {
		t.Errorf("%d of %d frames were ever whole", whole, len(records))
	}
}

func TestFramesCutAtEveryByte(t *testing.T) {
	for _, records := range [][]string{
		{"a"},
		{"one", "two", "three"},
		{letters(127), letters(128), letters(129)},
		{"\x00", "\x00\x00", "\x00\x00\x00", strings.Repeat("\x00", 200)},
		{"\xff", strings.Repeat("\xff", 300), "\xff"},
		{plainFrame("in"), plainFrames("in", "in"), plainFrame(plainFrame("in"))},
		{allBytes(), "a", allBytes(), "b"},
		strings.Split(strings.Repeat("word ", 60)+"end", " "),
	} {
		cutAnywhere(t, records)
	}
}

func TestALongFrameCut(t *testing.T) {
	file := plainFrames("a", letters(9000), letters(9000))
	for _, cut := range []int{6, 7, 8, 9, 10, 11, 12, 13, 100, 8999, 9000, 9006, 9010, 9011} {
		wantRecords(t, "the second cut", file[:cut], []string{"a"}, 6)
	}
	for _, cut := range []int{9012, 9013, 9014, 9018, 9019, 12000, 18000, 18016, 18017} {
		wantRecords(t, "the third cut", file[:cut], []string{"a", letters(9000)}, 9012)
	}
	wantRecords(t, "not cut", file, []string{"a", letters(9000), letters(9000)}, 18018)
}

func TestFileLimits(t *testing.T) {
	most := []string{letters(9000), letters(9000), letters(1982)}
	file := plainFrames(most...)
	if len(file) != 20000 {
		t.Fatalf("the file has %d bytes", len(file))
	}
	wantRecords(t, "MaxText bytes of frames", file, most, 20000)
	wantRecords(t, "one byte less", file[:19999], most[:2], 18012)
	over := plainFrames(letters(9000), letters(9000), letters(1983))
	wantRecords(t, "MaxText + 1 bytes of frames", over, nil, 0)
	wantRecords(t, "the same, cut", over[:20000], most[:2], 18012)
	wantRecords(t, "MaxText + 1 bytes, the last of no frame", file+"x", nil, 0)
	one := plainFrame("one")
	wantRecords(t, "MaxText bytes, most of them of no frame", one+strings.Repeat("\x00", 19992), []string{"one"}, 8)
	wantRecords(t, "MaxText + 1 bytes, most of them of no frame", one+strings.Repeat("\x00", 19993), nil, 0)
	wantRecords(t, "twice MaxText", file+file, nil, 0)
}

// Each byte of each frame is turned in every way: none of its frame comes, nor
// of those behind.
func TestAByteTurned(t *testing.T) {
	for _, records := range [][]string{
		{"a"},
		{"one", "two", "three"},
		{"\x00\x00", "\xff", letters(130), "\x01\x02\x03"},
		{letters(127), letters(128), "b"},
	} {
		file := plainFrames(records...)
		begin := 0
		for which, record := range records {
			end := begin + len(plainFrame(record))
			for at := begin; at < end; at++ {
				for by := 1; by < 256; by++ {
					wantRecords(t, "a byte turned", turned(file, at, by), records[:which], begin)
				}
			}
			begin = end
		}
	}
}

func TestAByteTurnedInALongFrame(t *testing.T) {
	records := []string{"first", letters(9000), "last"}
	file := plainFrames(records...)
	for _, at := range []int{10, 11, 12, 13, 14, 15, 16, 17, 4000, 9014, 9015} {
		for by := 1; by < 256; by++ {
			wantRecords(t, "a byte of the long one turned", turned(file, at, by), records[:1], 10)
		}
	}
	wantRecords(t, "a byte of the last one turned", turned(file, 9016, 1), records[:2], 9016)
}

func TestALengthOfNone(t *testing.T) {
	wantAhead(t, "a length of 0", "\x00")
	wantAhead(t, "a length of 0 and the sum of nothing", plainFrame(""))
	wantAhead(t, "noughts", strings.Repeat("\x00", 50))
}

func TestALengthAboveMaxRecord(t *testing.T) {
	for _, size := range []int{9001, 9002, 10000, 16383, 16384} {
		wrong := plainFrame(letters(size))
		wantAhead(t, "a length above MaxRecord", wrong)
	}
	wantAhead(t, "MaxText as a length", plainLength(20000)+letters(3000))
	wantAhead(t, "MaxNumber as a length", plainLength(1000000000)+letters(100))
	wantAhead(t, "a length above MaxNumber", plainLength(1000000001)+letters(100))
	wantAhead(t, "2 to the 63rd as a length", "\x80\x80\x80\x80\x80\x80\x80\x80\x80\x01"+letters(100))
}

func TestALongerFormOfALength(t *testing.T) {
	for _, c := range []struct {
		length string
		record string
	}{
		{"\x80\x00", ""},
		{"\x81\x00", "a"},
		{"\x83\x00", "abc"},
		{"\x83\x80\x00", "abc"},
		{"\x83\x80\x80\x80\x00", "abc"},
		{"\xff\x00", letters(127)},
		{"\x80\x81\x00", letters(128)},
		{"\xa8\xc6\x00", letters(9000)},
	} {
		wantAhead(t, "a longer form of a length", c.length+plainSeal(c.record)+c.record)
	}
}

func TestALengthWithoutAnEnd(t *testing.T) {
	for _, wrong := range []string{"\x80", "\xff", "\x80\x80", "\xff\xff\xff\xff", "\x80\x80\x80\x80\x80\x80"} {
		wantRecords(t, "a length without an end", wrong, nil, 0)
		wantRecords(t, "a length without an end", plainFrame("one")+wrong, []string{"one"}, 8)
	}
}

func TestALengthPastTheEnd(t *testing.T) {
	for _, size := range []int{4, 5, 127, 128, 8999, 9000} {
		for _, record := range []string{"", "a", "abc"} {
			torn := plainLength(size) + plainSeal(record) + record
			wantRecords(t, "a length past the end", torn, nil, 0)
			wantRecords(t, "a length past the end", plainFrame("one")+torn, []string{"one"}, 8)
		}
	}
}

// The sum is right of the bytes that are there, or of more than the length says.
func TestALengthThatIsNotTheRecords(t *testing.T) {
	for _, record := range []string{"abc", letters(127), letters(128), allBytes()} {
		for _, size := range []int{len(record) - 1, len(record) + 1} {
			wantAhead(t, "a length beside the record's", plainLength(size)+plainSeal(record)+record)
		}
	}
}

func TestASumThatIsNotTheRecords(t *testing.T) {
	for _, record := range []string{"a", "abc", letters(200)} {
		s := plainSeal(record)
		back := string([]byte{s[3], s[2], s[1], s[0]})
		length := plainLength(len(record))
		wantAhead(t, "the lowest byte first", length+back+record)
		wantAhead(t, "no sum", length+record)
		wantAhead(t, "the sum behind", length+record+s)
		wantAhead(t, "the sum of the length too", length+plainSeal(length+record)+record)
		wantAhead(t, "another record's sum", length+plainSeal("other")+record)
		wantAhead(t, "noughts as the sum", length+"\x00\x00\x00\x00"+record)
	}
}

func TestBytesOfNoFrameBehind(t *testing.T) {
	for b := range 256 {
		wrong := string([]byte{byte(b)})
		wantRecords(t, "one byte more", plainFrame("one")+wrong, []string{"one"}, 8)
		wantRecords(t, "bytes more", plainFrame("one")+strings.Repeat(wrong, 40), []string{"one"}, 8)
		wantRecords(t, "bytes alone", strings.Repeat(wrong, 40), nil, 0)
	}
	wantRecords(t, "a sealed text", plainSealed("one"), nil, 0)
}

// drawnFiles has files of some frames each, of which some bytes are turned,
// taken out, put in or cut off.
func drawnFiles(count int) []string {
	draw := uint32(20261117)
	next := func(below int) int {
		draw = draw*1664525 + 1013904223
		return int(draw>>8) % below
	}
	var files []string
	for range count {
		file := ""
		for range 1 + next(5) {
			file += plainFrame(strings.Repeat(string([]byte{byte(next(256))}), 1+next(140)))
		}
		at := next(len(file))
		switch next(5) {
		case 0:
			file = turned(file, at, next(256))
		case 1:
			file = file[:at] + file[at+1:]
		case 2:
			file = file[:at] + string([]byte{byte(next(256))}) + file[at:]
		case 3:
			file = file[:at]
		}
		files = append(files, file)
	}
	return files
}

func TestUnframeOfDrawnFiles(t *testing.T) {
	for _, file := range drawnFiles(2000) {
		records, end := plainUnframe(file)
		wantRecords(t, "a drawn file", file, records, end)
	}
}

// What is told of a file is told of what its records make when they are framed again.
func TestRecordsFramedAgainAreTheBeginning(t *testing.T) {
	for _, file := range drawnFiles(500) {
		records, end := impl.Unframe(file)
		again := ""
		for _, record := range records {
			f, ok := impl.Frame(record)
			if !ok {
				t.Errorf("Frame refuses a record of %d bytes that Unframe tells", len(record))
			}
			again += f
		}
		if end < 0 || end > len(file) || again != file[:end] {
			t.Errorf("the records of %.60q are framed as %.60q", file, again)
		}
	}
}

func TestAnswersOfFramesAreNewMemory(t *testing.T) {
	text := strings.Clone("hello")
	f, _ := impl.Frame(text)
	if within(f, text) || within(text, f) {
		t.Error("Frame answers its argument")
	}
	file := plainFrames("one", "two", letters(300), "two")
	records, _ := impl.Unframe(file)
	for at, record := range records {
		if within(record, file) {
			t.Errorf("the record %d is a piece of the file", at)
		}
		for _, other := range records[at+1:] {
			if within(record, other) || within(other, record) {
				t.Errorf("the record %d shares memory with one behind", at)
			}
		}
	}
	again, _ := impl.Unframe(file)
	again[0] = "changed"
	if records[0] != "one" {
		t.Error("two answers share one list")
	}
}

func TestFramesOfManyAtOnce(t *testing.T) {
	file := plainFrames("one", "two") + "torn"
	good := make([]int, 32)
	var all sync.WaitGroup
	for i := range good {
		all.Add(1)
		go func() {
			defer all.Done()
			f, _ := impl.Frame("one")
			records, end := impl.Unframe(file)
			if f == plainFrame("one") && slices.Equal(records, []string{"one", "two"}) && end == 16 {
				good[i]++
			}
		}()
	}
	all.Wait()
	if slices.Contains(good, 0) {
		t.Error("one of many is told otherwise")
	}
}
