package tests

import (
	"fmt"
	"math"
	"slices"
	"strings"
	"sync"
	"testing"

	"loop.example/g00103/impl"
)

// cast is a vote of a file: who got it in which term.
type cast struct{ term, vote int }

func voteRecord(v cast) string { return plainLength(v.term) + plainLength(v.vote) }

// plainVote is the rule of VoteText, also of numbers that pass their limits.
func plainVote(v cast) string { return plainFrame(voteRecord(v)) }

func plainVotes(list ...cast) string {
	file := ""
	for _, v := range list {
		file += plainVote(v)
	}
	return file
}

func plainVoteOk(v cast) bool {
	return 0 <= v.term && v.term < 100001 && 0 <= v.vote && v.vote < 5
}

// plainReadVote takes the last byte as the vote, and all ahead of it as a term
// in whatever form; just the record that these would have is one.
func plainReadVote(record string) (cast, bool) {
	if len(record) < 2 || len(record) > 5 {
		return cast{}, false
	}
	v := cast{vote: int(record[len(record)-1])}
	power := 1
	for _, b := range []byte(record[:len(record)-1]) {
		v.term += int(b%128) * power
		power *= 128
	}
	return v, plainVoteOk(v) && voteRecord(v) == record
}

func plainReadVotes(file string) (int, int, int) {
	records, _ := plainUnframe(file)
	last, end := cast{}, 0
	for _, record := range records {
		v, ok := plainReadVote(record)
		if !ok {
			return last.term, last.vote, end
		}
		last = v
		end += len(plainVote(v))
	}
	return last.term, last.vote, end
}

func wantVoteText(t *testing.T, why string, v cast) {
	t.Helper()
	want := ""
	if plainVoteOk(v) {
		want = plainVote(v)
	}
	if text, ok := impl.VoteText(v.term, v.vote); text != want || ok != plainVoteOk(v) {
		t.Errorf("%s: VoteText(%d, %d) = %q, %v; want %q, %v", why, v.term, v.vote, text, ok, want, plainVoteOk(v))
	}
}

func wantVotes(t *testing.T, why string, file string, last cast, end int) {
	t.Helper()
	if term, vote, behind := impl.ReadVotes(file); term != last.term || vote != last.vote || behind != end {
		t.Errorf("%s: ReadVotes(%.60q of %d bytes) = %d, %d, %d; want %d, %d, %d",
			why, file, len(file), term, vote, behind, last.term, last.vote, end)
	}
}

func wantNoVotes(t *testing.T, why string, file string) {
	t.Helper()
	wantVotes(t, why, file, cast{}, 0)
}

// wantPlainVotes holds a file against the plain rule; whether it has a vote.
func wantPlainVotes(t *testing.T, why string, file string) bool {
	t.Helper()
	term, vote, end := plainReadVotes(file)
	wantVotes(t, why, file, cast{term, vote}, end)
	return end > 0
}

func someVotes() []cast {
	var list []cast
	for _, term := range []int{0, 1, 3, 126, 127, 128, 129, 300, 16383, 16384, 99999, 100000} {
		for vote := range 5 {
			list = append(list, cast{term, vote})
		}
	}
	return list
}

// votesToCut are files of few bytes, for what is done at every byte.
func votesToCut() map[string][]cast {
	return map[string][]cast{
		"one":                    {{3, 2}},
		"one of nothing":         {{0, 0}},
		"the greatest":           {{100000, 4}},
		"two of one term":        {{3, 0}, {3, 2}},
		"two alike":              {{300, 4}, {300, 4}},
		"terms that go on":       {{0, 1}, {1, 0}, {1, 3}, {127, 2}, {128, 2}, {16383, 4}, {16384, 1}, {100000, 0}},
		"terms that fall":        {{100000, 4}, {300, 1}, {2, 3}, {0, 0}},
		"nothing last":           {{7, 1}, {0, 0}},
		"nothing first":          {{0, 0}, {7, 1}},
		"nothing, and nothing":   {{0, 0}, {0, 0}, {0, 0}},
		"votes that come to one": {{5, 4}, {5, 3}, {5, 2}, {5, 1}, {5, 0}},
	}
}

// aheadOf is the last vote of a file's first size bytes, and where it ends.
func aheadOf(list []cast, size int) (cast, int) {
	last, end := cast{}, 0
	for _, v := range list {
		if end+len(plainVote(v)) > size {
			break
		}
		last = v
		end += len(plainVote(v))
	}
	return last, end
}

// noVoteRecords have from 1 to MaxRecord bytes, but are none.
func noVoteRecords() map[string]string {
	return map[string]string{
		"one number":                       "\x03",
		"one number, 0":                    "\x00",
		"one number of two bytes":          "\xac\x02",
		"one number of three bytes":        "\xa0\x8d\x06",
		"three numbers":                    "\x03\x02\x00",
		"a nought behind":                  "\xac\x02\x03\x00",
		"a letter behind":                  "\x03\x02x",
		"words behind":                     "\x03\x02words",
		"two votes":                        "\x03\x02\x03\x02",
		"a longer form of term":            "\x83\x00\x02",
		"a longer form of vote":            "\x03\x82\x00",
		"a longer form of both":            "\x83\x00\x82\x00",
		"a longer form of term 0":          "\x80\x00\x02",
		"a longer form of vote 0":          "\x03\x80\x00",
		"a far longer form of term":        "\x83\x80\x80\x80\x00\x02",
		"a far longer form of vote":        "\x03\x82\x80\x80\x80\x00",
		"a longer form of term 128":        "\x80\x81\x00\x02",
		"a longer form of MaxTerm":         "\xa0\x8d\x86\x00\x02",
		"a term without an end":            "\x83",
		"a vote without an end":            "\x03\x82",
		"numbers without an end":           strings.Repeat("\xff", 9),
		"a term of MaxTerm + 1":            voteRecord(cast{100001, 2}),
		"a term of MaxTerm + 1, nobody":    voteRecord(cast{100001, 0}),
		"a vote of MaxNodes + 1":           voteRecord(cast{3, 5}),
		"a vote of MaxNodes + 1, term 0":   voteRecord(cast{0, 5}),
		"both above by one":                voteRecord(cast{100001, 5}),
		"MaxTerm and MaxNodes + 1":         voteRecord(cast{100000, 5}),
		"a vote of 127":                    voteRecord(cast{3, 127}),
		"a vote of 128":                    voteRecord(cast{3, 128}),
		"a vote of 256":                    voteRecord(cast{3, 256}),
		"a vote of 258":                    voteRecord(cast{3, 258}),
		"a vote of MaxNumber":              voteRecord(cast{3, 1000000000}),
		"a vote of MaxNumber + 1":          voteRecord(cast{3, 1000000001}),
		"a term of MaxNumber":              voteRecord(cast{1000000000, 2}),
		"a term of MaxNumber + 1":          voteRecord(cast{1000000001, 2}),
		"a term of 2 to the 32nd and 3":    voteRecord(cast{1<<32 + 3, 2}),
		"the vote first, a term behind it": "\x02\xac\x02",
		"figures":                          "32",
		"figures with a blank":             "3 2",
		"a letter ahead":                   "V\x03\x02",
		"a frame of a vote":                plainVote(cast{3, 2}),
		"a sealed vote":                    plainSealed("\x03\x02"),
		"an entry":                         plainEntryText(3, noneOf(1)),
		"an S":                             startRecord(3, 2),
		"a batch":                          plainBatchText(batchOf(3, set("a", "x"))),
		"many bytes":                       letters(9000),
		"many noughts":                     strings.Repeat("\x00", 9000),
	}
}

func TestVoteName(t *testing.T) {
	if impl.NameVote != "vote" {
		t.Error("NameVote is not the document's")
	}
}

func TestVotesByteByByte(t *testing.T) {
	for v, want := range map[cast]string{
		{0, 0}:      "\x02\x76\xae\xb4\x2f\x00\x00",
		{0, 1}:      "\x02\x5d\x73\x64\x60\x00\x01",
		{1, 1}:      "\x02\xc6\x81\xb8\x11\x01\x01",
		{3, 2}:      "\x02\x25\x31\xe8\x09\x03\x02",
		{5, 0}:      "\x02\x7a\xc3\xb1\xe7\x05\x00",
		{127, 4}:    "\x02\xef\xda\xa2\xd2\x7f\x04",
		{128, 4}:    "\x03\x03\xcc\xe3\x70\x80\x01\x04",
		{300, 3}:    "\x03\xad\x9b\x00\x53\xac\x02\x03",
		{16383, 1}:  "\x03\x6b\x70\xcc\xa1\xff\x7f\x01",
		{16384, 1}:  "\x04\x95\x15\x99\xda\x80\x80\x01\x01",
		{99999, 3}:  "\x04\xbb\x21\xf3\x70\x9f\x8d\x06\x03",
		{100000, 0}: "\x04\xa9\xca\xf1\xcb\xa0\x8d\x06\x00",
		{100000, 4}: "\x04\x06\xbd\xb0\xf7\xa0\x8d\x06\x04",
	} {
		if text, ok := impl.VoteText(v.term, v.vote); !ok || text != want {
			t.Errorf("VoteText(%d, %d) = %q, %v; want %q", v.term, v.vote, text, ok, want)
		}
		wantVotes(t, "by hand", want, v, len(want))
	}
}

func TestVoteTextAtItsLimits(t *testing.T) {
	const least, most = math.MinInt, math.MaxInt
	terms := []int{least, least + 1, -1 << 32, -100001, -100000, -128, -5, -1, 0, 1, 4, 5, 127, 128, 99999, 100000, 100001, 100002, 1000000000, 1000000001, 1 << 32, 1<<32 + 3, most - 1, most}
	votes := []int{least, least + 1, least + 2, -1 << 32, -256, -254, -128, -5, -4, -1, 0, 1, 2, 3, 4, 5, 6, 127, 128, 255, 256, 258, 100000, 1000000000, 1000000001, 1 << 32, 1<<32 + 2, most - 1, most}
	right := 0
	for _, term := range terms {
		for _, vote := range votes {
			wantVoteText(t, "limits", cast{term, vote})
			if _, ok := impl.VoteText(term, vote); ok {
				right++
			}
		}
	}
	// 0, 1, 4, 5, 127, 128, 99999 and MaxTerm; 0 .. MaxNodes.
	if right != 8*5 {
		t.Errorf("%d of them are votes", right)
	}
}

func TestVoteTextOfEachTermAndVote(t *testing.T) {
	for term := -300; term < 100300; term++ {
		wantVoteText(t, "a term", cast{term, 2})
	}
	for vote := -300; vote < 600; vote++ {
		wantVoteText(t, "a vote", cast{3, vote})
		wantVoteText(t, "a vote of the term 0", cast{0, vote})
		wantVoteText(t, "a vote of MaxTerm", cast{100000, vote})
		wantVoteText(t, "a vote of MaxTerm + 1", cast{100001, vote})
	}
}

func TestEachVoteComesBack(t *testing.T) {
	for term := 0; term <= 100000; term++ {
		v := cast{term, term % 5}
		text, ok := impl.VoteText(v.term, v.vote)
		if !ok {
			t.Fatalf("VoteText(%d, %d) is false", v.term, v.vote)
		}
		wantVotes(t, "one vote", text, v, len(text))
	}
}

func TestTheLastOfTwoVotesIsTold(t *testing.T) {
	for _, a := range someVotes() {
		for _, b := range someVotes() {
			file := plainVote(a) + plainVote(b)
			wantVotes(t, "two votes", file, b, len(file))
		}
	}
}

func TestFilesWithoutAVote(t *testing.T) {
	right := plainVote(cast{3, 2})
	for why, file := range map[string]string{
		"the empty file":                 "",
		"a byte":                         "x",
		"a byte 0":                       "\x00",
		"no frame":                       "\x03\x02",
		"torn bytes":                     "torn",
		"noughts":                        strings.Repeat("\x00", 300),
		"a vote that is cut off":         right[:6],
		"a vote that is torn":            turned(right, 6, 1),
		"a torn vote, a whole one":       turned(right, 6, 1) + right,
		"a byte ahead":                   "\x00" + right,
		"a record of no bytes":           plainFrame(""),
		"a record of no bytes, a vote":   plainFrame("") + right,
		"MaxText bytes of no frame":      letters(20000),
		"far more bytes of no frame":     letters(100000),
		"a length of 2 in a longer form": "\x82\x00" + right[1:],
		"a log":                          plainLogFile(ordinaryLog()),
		"a manifest":                     plainManifestText(ordinary()),
		"a segment":                      segmentOf(batchOf(1, set("a", "x"))),
	} {
		wantNoVotes(t, why, file)
		if wantPlainVotes(t, why, file) {
			t.Errorf("%s: the plain rule tells a vote", why)
		}
	}
	for b := range 256 {
		for _, size := range []int{1, 2, 6, 7, 40} {
			wantNoVotes(t, "one byte repeated", strings.Repeat(string([]byte{byte(b)}), size))
		}
	}
}

func TestVotesCutAtEveryByte(t *testing.T) {
	for why, list := range votesToCut() {
		file := plainVotes(list...)
		for size := range len(file) + 1 {
			last, end := aheadOf(list, size)
			wantVotes(t, why+", cut", file[:size], last, end)
			wantVotes(t, why+", cut, bytes 255 behind", file[:size]+strings.Repeat("\xff", 9), last, end)
			// Noughts make a vote whole that was cut ahead of its own.
			wantPlainVotes(t, why+", cut, noughts behind", file[:size]+strings.Repeat("\x00", 9))
			wantPlainVotes(t, why+", cut, the same behind", file[:size]+file)
			wantPlainVotes(t, why+", without its beginning", file[size:])
		}
		wantVotes(t, why, file, list[len(list)-1], len(file))
	}
}

func TestTornBytesBehindVotes(t *testing.T) {
	for why, list := range votesToCut() {
		file, last := plainVotes(list...), list[len(list)-1]
		right := plainVote(cast{77, 1})
		for _, torn := range []string{
			"torn", "\x00", "\x80", "\xff\xff", "\x02", "\x02torn!", right[1:], right[:1], right[:5], right[:6],
			turned(right, 0, 1), turned(right, 3, 128), turned(right, 5, 1), turned(right, 6, 2),
			plainFrame(""), letters(300), strings.Repeat("\x00", 300),
		} {
			wantVotes(t, why+", torn", file+torn, last, len(file))
			if torn != right[:1] && torn != "\x02" {
				wantVotes(t, why+", torn, whole ones behind", file+torn+right+file, last, len(file))
			}
		}
		for b := range 256 {
			wantVotes(t, why+", a byte behind", file+string([]byte{byte(b)}), last, len(file))
		}
	}
}

// What stands behind a frame with a byte turned is not looked at.
func TestVotesWithAByteTurned(t *testing.T) {
	for why, list := range votesToCut() {
		file := plainVotes(list...)
		for at := range len(file) {
			last, end := aheadOf(list, at)
			for by := 1; by < 256; by++ {
				wantVotes(t, why+", a byte turned", turned(file, at, by), last, end)
			}
			wantPlainVotes(t, why+", a byte left out", file[:at]+file[at+1:])
			wantPlainVotes(t, why+", a byte twice", file[:at+1]+file[at:])
		}
	}
}

func TestFramesThatAreNoVotes(t *testing.T) {
	a, b, c := cast{3, 2}, cast{300, 4}, cast{4, 0}
	ahead := plainVotes(a, b)
	for why, record := range noVoteRecords() {
		odd := plainFrame(record)
		if told, end := impl.Unframe(odd); len(told) != 1 || end != len(odd) {
			t.Fatalf("%s: no whole frame", why)
		}
		wantNoVotes(t, why+", alone", odd)
		wantNoVotes(t, why+", twice", odd+odd)
		wantNoVotes(t, why+", first", odd+ahead)
		wantNoVotes(t, why+", first, torn bytes last", odd+plainVote(a)+"torn")
		wantVotes(t, why+", behind one", plainVote(a)+odd, a, 7)
		wantVotes(t, why+", between votes", plainVote(a)+odd+plainVote(b), a, 7)
		wantVotes(t, why+", between votes, the same behind", plainVote(a)+odd+plainVote(a), a, 7)
		wantVotes(t, why+", between many", ahead+odd+plainVotes(c, a, b), b, 15)
		wantVotes(t, why+", last", ahead+odd, b, 15)
		wantVotes(t, why+", last, torn bytes behind", ahead+odd+"torn", b, 15)
		wantVotes(t, why+", twice between", ahead+odd+plainVote(c)+odd, b, 15)
		wantVotes(t, why+", behind nothing's vote", plainVotes(b, cast{})+odd+plainVote(a), cast{}, 15)
		// A torn frame is none, whatever its record was to be.
		wantVotes(t, why+", torn", ahead+odd[:len(odd)-1], b, 15)
		wantVotes(t, why+", turned", ahead+turned(odd, len(odd)-1, 1)+plainVote(c), b, 15)
	}
}

// A record of no bytes has no frame: nothing behind its length and its sum is
// looked at.
func TestARecordOfNoBytesAmongVotes(t *testing.T) {
	a, b := cast{3, 2}, cast{300, 4}
	none := plainFrame("")
	wantNoVotes(t, "alone", none)
	wantNoVotes(t, "first", none+plainVotes(a, b))
	wantVotes(t, "between votes", plainVote(a)+none+plainVote(b), a, 7)
	wantVotes(t, "last", plainVotes(a, b)+none, b, 15)
	wantVotes(t, "last, a nought", plainVotes(a, b)+"\x00", b, 15)
}

func TestVotesOfEachShortRecord(t *testing.T) {
	ahead := plainVote(cast{9, 3})
	right := 0
	look := func(record string) {
		t.Helper()
		v, ok := plainReadVote(record)
		frame := plainFrame(record)
		if !ok {
			wantNoVotes(t, "a short record", frame)
			wantVotes(t, "a short record behind a vote", ahead+frame, cast{9, 3}, 7)
			return
		}
		right++
		wantVotes(t, "a short record", frame, v, len(frame))
		wantVotes(t, "a short record behind a vote", ahead+frame, v, 7+len(frame))
	}
	for first := range 256 {
		look(string([]byte{byte(first)}))
		for second := range 256 {
			look(string([]byte{byte(first), byte(second)}))
		}
	}
	if right != 128*5 {
		t.Errorf("%d of the records of up to two bytes are votes", right)
	}
	some := []byte{0, 1, 2, 4, 5, 6, 7, 127, 128, 129, 132, 133, 0x8d, 0xa0, 0xa1, 255}
	for _, a := range some {
		for _, b := range some {
			for _, c := range some {
				look(string([]byte{a, b, c}))
				for _, d := range some {
					look(string([]byte{a, b, c, d}))
				}
			}
		}
	}
	if right < 1000 {
		t.Errorf("%d of the short records are votes", right)
	}
}

func TestVotesPastALimit(t *testing.T) {
	ahead := plainVote(cast{9, 3})
	for _, term := range []int{0, 1, 127, 128, 99999, 100000, 100001, 100002, 16384 * 100, 1000000000} {
		for vote := range 300 {
			v := cast{term, vote}
			frame := plainVote(v)
			if plainVoteOk(v) {
				wantVotes(t, "within", ahead+frame, v, 7+len(frame))
				continue
			}
			wantNoVotes(t, "past a limit", frame)
			wantVotes(t, "past a limit, last", ahead+frame, cast{9, 3}, 7)
			wantVotes(t, "past a limit, between", ahead+frame+ahead, cast{9, 3}, 7)
		}
	}
}

// Unframe tells no records of a file above MaxText.
func TestVotesOfMaxTextBytes(t *testing.T) {
	list := make([]cast, 2500)
	for at := range list {
		list[at] = cast{128 + at, at % 5}
	}
	file := plainVotes(list...)
	if len(file) != 20000 {
		t.Fatalf("the file has %d bytes", len(file))
	}
	wantVotes(t, "MaxText bytes of votes", file, list[2499], 20000)
	wantVotes(t, "one byte less", file[:19999], list[2498], 19992)
	wantNoVotes(t, "MaxText + 1 bytes, the last torn", file+"\x02")
	over := plainVotes(list[:2499]...) + plainVote(cast{100000, 4})
	if len(over) != 20001 {
		t.Fatalf("the file has %d bytes", len(over))
	}
	wantNoVotes(t, "MaxText + 1 bytes of votes", over)
	wantVotes(t, "the same, cut", over[:20000], list[2498], 19992)
	wantNoVotes(t, "twice MaxText", file+file)
	one := plainVote(cast{3, 2})
	wantVotes(t, "MaxText bytes, most of them torn", one+strings.Repeat("\x00", 19993), cast{3, 2}, 7)
	wantNoVotes(t, "MaxText + 1 bytes, most of them torn", one+strings.Repeat("\x00", 19994))
	small := strings.Repeat(plainVote(cast{3, 2}), 2857)
	wantVotes(t, "as many votes as there may be", small, cast{3, 2}, 19999)
	wantNoVotes(t, "one more", small+one)
}

func drawnVote(d *drawing) cast {
	return cast{d.below([]int{3, 300, 100001}[d.below(3)]), d.below(5)}
}

func TestDrawnVotes(t *testing.T) {
	d := &drawing{state: 50}
	for range 2000 {
		file := ""
		last := cast{}
		for range d.below([]int{3, 20, 90}[d.below(3)]) {
			last = drawnVote(d)
			text, ok := impl.VoteText(last.term, last.vote)
			if !ok {
				t.Fatalf("VoteText(%d, %d) is false", last.term, last.vote)
			}
			file += text
		}
		wantVotes(t, "drawn votes", file, last, len(file))
	}
}

func TestDrawnFilesOfVotes(t *testing.T) {
	d := &drawing{state: 51}
	odd := make([]string, 0, len(noVoteRecords()))
	for _, record := range noVoteRecords() {
		if len(record) < 100 {
			odd = append(odd, record)
		}
	}
	// A map tells its texts in any order.
	slices.Sort(odd)
	some := 0
	for range 5000 {
		file := ""
		for range 1 + d.below(8) {
			switch d.below(12) {
			case 0:
				file += plainFrame(odd[d.below(len(odd))])
			case 1:
				file += plainFrame(d.bytes(4) + "\x02")
			default:
				file += plainVote(drawnVote(d))
			}
		}
		at := d.below(len(file))
		switch d.below(8) {
		case 0:
			file = turned(file, at, d.below(256))
		case 1:
			file = file[:at] + file[at+1:]
		case 2:
			file = file[:at] + d.bytes(3) + file[at:]
		case 3:
			file = file[:at]
		case 4:
			file += d.bytes(12)
		}
		if wantPlainVotes(t, "a drawn file", file) {
			some++
		}
	}
	if some < 2000 || some > 4950 {
		t.Errorf("%d of the drawn files have votes", some)
	}
}

// A vote is put behind those that were; wherever the power goes in the midst of
// that, the last one is the one ahead or the one behind.
func TestVotesAddedAndCutAnywhere(t *testing.T) {
	d := &drawing{state: 52}
	file, last := "", cast{}
	for range 60 {
		next := drawnVote(d)
		text, ok := impl.VoteText(next.term, next.vote)
		if !ok {
			t.Fatalf("VoteText(%d, %d) is false", next.term, next.vote)
		}
		list := []impl.Raw{add(impl.NameVote, text)}
		for part := range len(text) + 1 {
			disk, ok := impl.CutRaws(diskOf(impl.NameVote, file), list, 0, part)
			if !ok {
				t.Fatalf("CutRaws of %d bytes is false", part)
			}
			left, _ := impl.FileAt(disk, impl.NameVote)
			if part < len(text) {
				wantVotes(t, "cut", left, last, len(file))
			} else {
				wantVotes(t, "not cut", left, next, len(left))
			}
		}
		file, last = file+text, next
	}
}

// What is cut behind the place that is told tells the same again, and what is
// put behind it comes to be the last.
func TestAFileGoesOnBehindThePlaceTold(t *testing.T) {
	d := &drawing{state: 53}
	for range 500 {
		file := plainVotes(slices.Repeat([]cast{drawnVote(d)}, d.below(4))...) + d.bytes(9)
		term, vote, end := impl.ReadVotes(file)
		wantVotes(t, "cut behind the place", file[:end], cast{term, vote}, end)
		next := drawnVote(d)
		more := plainVote(next)
		wantVotes(t, "one more behind the place", file[:end]+more, next, end+len(more))
	}
}

func TestVotesAreToldTheSameEachTime(t *testing.T) {
	file := plainVotes(cast{3, 2}, cast{100000, 4}) + plainFrame("x")
	first := fmt.Sprint(impl.ReadVotes(file))
	impl.ReadVotes("")
	impl.VoteText(-1, 9)
	if again := fmt.Sprint(impl.ReadVotes(file)); again != first {
		t.Errorf("ReadVotes tells %s, then %s", first, again)
	}
	wantNoVotes(t, "behind others", "")
	wantNoVotes(t, "behind others", plainFrame("x"))
}

func TestManyVotesAtOnce(t *testing.T) {
	var all sync.WaitGroup
	for n := range 8 {
		all.Add(1)
		go func() {
			defer all.Done()
			for at := range 50 {
				v := cast{100*n + at, at % 5}
				wantVoteText(t, "at once", v)
				wantVotes(t, "at once", plainVotes(cast{1, 1}, v)+"torn", v, 7+len(plainVote(v)))
				wantNoVotes(t, "at once", plainVote(cast{100001, 1}))
			}
		}()
	}
	all.Wait()
}
