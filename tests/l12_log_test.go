package tests

import (
	"fmt"
	"math"
	"slices"
	"strings"
	"sync"
	"testing"

	"loop.example/g00103/impl"
)

func entries(list ...impl.Entry) []impl.Entry { return list }

func logOf(start, term int, list ...impl.Entry) impl.Log {
	return impl.Log{Start: start, StartTerm: term, Entries: list}
}

// logOfMany has n entries of one term.
func logOfMany(start, term, n int) impl.Log {
	return logOf(start, term, slices.Repeat(entries(noneOf(term)), n)...)
}

// ordinaryLog has entries of the indexes 3 to 6.
func ordinaryLog() impl.Log {
	return logOf(2, 1, noneOf(1), commandOf(1, "x"), confOf(3, "\x01\x02"), commandOf(4, ""))
}

func sameLog(a, b impl.Log) bool {
	return a.Start == b.Start && a.StartTerm == b.StartTerm && slices.Equal(a.Entries, b.Entries)
}

func noLog(l impl.Log) bool { return sameLog(l, impl.Log{}) }

// shortLog tells a log without the whole of its entries.
func shortLog(l impl.Log) string {
	return fmt.Sprintf("{%d %d, %d entries %.90q}", l.Start, l.StartTerm, len(l.Entries), fmt.Sprint(l.Entries))
}

// plainLogOk is the document's rule, word by word.
func plainLogOk(l impl.Log) bool {
	if l.Start < 0 || l.Start > 100000 || l.StartTerm < 0 || l.StartTerm > 100000 || len(l.Entries) > 120 {
		return false
	}
	terms := numbers(l.StartTerm)
	for _, e := range l.Entries {
		if !plainEntryOk(e) {
			return false
		}
		terms = append(terms, e.Term)
	}
	return slices.IsSorted(terms) && len(l.Entries) <= 100000-l.Start
}

func startRecord(start, term int) string { return "S" + plainLength(start) + plainLength(term) }

func recordsFrom(l impl.Log, place int) []string {
	var records []string
	for at, e := range l.Entries {
		if at >= place {
			records = append(records, plainEntryText(l.Start+1+at, e))
		}
	}
	return records
}

// plainLogFile is the rule of LogFile, also of logs that are not right.
func plainLogFile(l impl.Log) string {
	return plainFrame(startRecord(l.Start, l.StartTerm)) + plainFrames(recordsFrom(l, 0)...)
}

func logHasFile(l impl.Log) bool {
	for at, e := range l.Entries {
		if !entryHasText(l.Start+1+at, e) {
			return false
		}
	}
	return min(l.Start, l.StartTerm) >= 0
}

func plainReadStart(record string) (int, int, bool) {
	if !strings.HasPrefix(record, "S") {
		return 0, 0, false
	}
	start, behind, ok := plainReadVar(record, 1)
	if !ok {
		return 0, 0, false
	}
	term, end, ok := plainReadVar(record, behind)
	return start, term, ok && end == len(record)
}

// plainReadLog keeps each entry by its index, and how far the log goes.
func plainReadLog(file string) (impl.Log, int, bool) {
	records, end := plainUnframe(file)
	l, last := impl.Log{Start: -1}, -1
	var by map[int]impl.Entry
	for _, record := range records {
		if start, term, ok := plainReadStart(record); ok {
			l, last = logOf(start, term), start
			by = map[int]impl.Entry{}
			continue
		}
		index, e, ok := plainReadEntry(record)
		if !ok || by == nil || index < l.Start+1 || index > last+1 {
			return impl.Log{}, 0, false
		}
		by[index] = e
		last = index
	}
	for index := l.Start + 1; index <= last; index++ {
		l.Entries = append(l.Entries, by[index])
	}
	if !plainLogOk(l) {
		return impl.Log{}, 0, false
	}
	return l, end, true
}

// firstOther is the first place at which two logs have not the same entry.
func firstOther(a, b impl.Log) int {
	place := 0
	for place < len(a.Entries) && place < len(b.Entries) && a.Entries[place] == b.Entries[place] {
		place++
	}
	return place
}

func plainLogSteps(file string, old, now impl.Log) ([]impl.Raw, bool) {
	told, end, ok := plainReadLog(file)
	if !ok || end != len(file) || !sameLog(told, old) || !plainLogOk(now) {
		return nil, false
	}
	if sameLog(old, now) {
		return nil, true
	}
	more := plainFrames(recordsFrom(now, firstOther(old, now))...)
	if old.Start == now.Start && old.StartTerm == now.StartTerm && more != "" && len(file+more) < 20001 {
		return []impl.Raw{add("log", more)}, true
	}
	return []impl.Raw{put("log+", plainLogFile(now)), move("log+", "log")}, true
}

// plainLogTerm looks at each index that a log has, as long as an int holds it.
func plainLogTerm(l impl.Log, index int) int {
	if index == l.Start {
		return l.StartTerm
	}
	for at, e := range l.Entries {
		own := l.Start + 1 + at
		if own < l.Start {
			break
		}
		if index == own {
			return e.Term
		}
	}
	return -1
}

func plainLogBehind(l impl.Log, base, term int) impl.Log {
	behind := logOf(base, term)
	if !plainLogOk(l) || term < 0 || plainLogTerm(l, base) != term {
		return behind
	}
	for at, e := range l.Entries {
		if l.Start+1+at > base {
			behind.Entries = append(behind.Entries, e)
		}
	}
	return behind
}

func wantLogOk(t *testing.T, why string, l impl.Log, ok bool) {
	t.Helper()
	if got := impl.LogOk(l); got != ok || plainLogOk(l) != ok {
		t.Errorf("%s: LogOk(%s) = %v; want %v", why, shortLog(l), got, ok)
	}
}

func wantLogFile(t *testing.T, why string, l impl.Log) string {
	t.Helper()
	want := ""
	ok := plainLogOk(l)
	if ok {
		want = plainLogFile(l)
	}
	if got, right := impl.LogFile(l); got != want || right != ok {
		t.Errorf("%s: LogFile(%s) = %.90q of %d, %v; want %.90q of %d, %v", why, shortLog(l), got, len(got), right, want, len(want), ok)
	}
	return want
}

func wantNoLogFile(t *testing.T, why string, l impl.Log) {
	t.Helper()
	if got, ok := impl.LogFile(l); ok || got != "" {
		t.Errorf("%s: LogFile(%s) = %.90q of %d, %v; want none", why, shortLog(l), got, len(got), ok)
	}
}

func wantRead(t *testing.T, why string, file string, l impl.Log, end int) {
	t.Helper()
	if got, behind, ok := impl.ReadLog(file); !ok || !sameLog(got, l) || behind != end {
		t.Errorf("%s: ReadLog(%.60q of %d bytes) = %s, %d, %v; want %s, %d", why, file, len(file), shortLog(got), behind, ok, shortLog(l), end)
	}
}

func wantNoLog(t *testing.T, why string, file string) {
	t.Helper()
	if got, behind, ok := impl.ReadLog(file); ok || !noLog(got) || behind != 0 {
		t.Errorf("%s: ReadLog(%.60q of %d bytes) = %s, %d, %v; want none", why, file, len(file), shortLog(got), behind, ok)
	}
}

// wantLog holds ReadLog against the plain rule, and answers whether it is true.
func wantLog(t *testing.T, why string, file string) bool {
	t.Helper()
	l, end, ok := plainReadLog(file)
	if ok {
		wantRead(t, why, file, l, end)
	} else {
		wantNoLog(t, why, file)
	}
	return ok
}

func wantNoSteps(t *testing.T, why string, file string, old, now impl.Log) {
	t.Helper()
	if list, ok := impl.LogSteps(file, old, now); ok || len(list) > 0 {
		t.Errorf("%s: LogSteps(%.60q of %d, %s, %s) = %s, %v; want none", why, file, len(file), shortLog(old), shortLog(now), shortRaws(list), ok)
	}
}

// wantSteps asks for just these raw writes, which leave now on a disk; and
// answers the file that is there then.
func wantSteps(t *testing.T, why string, file string, old, now impl.Log, want ...impl.Raw) string {
	t.Helper()
	list, ok := impl.LogSteps(file, old, now)
	if !ok || !slices.Equal(list, want) {
		t.Errorf("%s: LogSteps(%.60q of %d, %s, %s) = %s, %v; want %s", why, file, len(file), shortLog(old), shortLog(now), shortRaws(list), ok, shortRaws(want))
	}
	disk, done := impl.PutRaws(diskOf("a", "stays", "log", file), list)
	left, there := impl.FileAt(disk, "log")
	if done != len(list) || !there || len(disk.Files) != 2 {
		t.Errorf("%s: %d of %d raw writes are done; they leave %s", why, done, len(list), short(disk))
	}
	wantRead(t, why+", behind the raw writes", left, now, len(left))
	return left
}

// wantPlainSteps holds LogSteps against the plain rule; the file that it
// answers is the same when it is false.
func wantPlainSteps(t *testing.T, why string, file string, old, now impl.Log) (string, []impl.Raw) {
	t.Helper()
	want, ok := plainLogSteps(file, old, now)
	if !ok {
		wantNoSteps(t, why, file, old, now)
		return file, nil
	}
	return wantSteps(t, why, file, old, now, want...), want
}

func wantBehind(t *testing.T, why string, l impl.Log, base, term int, want impl.Log) {
	t.Helper()
	if got := impl.LogBehind(l, base, term); !sameLog(got, want) {
		t.Errorf("%s: LogBehind(%s, %d, %d) = %s; want %s", why, shortLog(l), base, term, shortLog(got), shortLog(want))
	}
}

func wantBehindNothing(t *testing.T, why string, l impl.Log, base, term int) {
	t.Helper()
	wantBehind(t, why, l, base, term, logOf(base, term))
}

func rightLogs() map[string]impl.Log {
	all := map[string]impl.Log{
		"nothing at all":                    {},
		"no entries":                        logOf(7, 2),
		"one entry":                         logOf(0, 0, noneOf(1)),
		"an ordinary one":                   ordinaryLog(),
		"Start MaxIndex":                    logOf(100000, 3),
		"Start MaxIndex - 1, one entry":     logOf(99999, 3, noneOf(3)),
		"Start MaxIndex - 120, MaxLog":      logOfMany(99880, 3, 120),
		"StartTerm MaxTerm":                 logOf(7, 100000),
		"StartTerm MaxTerm, one entry":      logOf(7, 100000, noneOf(100000)),
		"all MaxIndex and MaxTerm":          logOf(100000, 100000),
		"MaxLog entries":                    logOfMany(0, 0, 120),
		"MaxLog - 1 entries":                logOfMany(5, 1, 119),
		"terms alike":                       logOfMany(5, 7, 9),
		"terms that rise by much":           logOf(5, 0, noneOf(0), noneOf(99999), noneOf(100000), noneOf(100000)),
		"indexes over 127":                  logOfMany(120, 127, 20),
		"indexes over 16383":                logOfMany(16375, 16383, 20),
		"a command of the text of an entry": logOf(0, 0, commandOf(1, "E\x01\x01\x01"), commandOf(1, "S\x00\x00")),
		"a command of a frame":              logOf(0, 0, commandOf(1, plainFrame("S\x00\x00"))),
	}
	for why, e := range rightEntries() {
		all["one entry: "+why] = logOf(3, 0, e)
	}
	return all
}

func wrongLogs() map[string]impl.Log {
	const least, most = math.MinInt, math.MaxInt
	all := map[string]impl.Log{
		"Start -1":                                      logOf(-1, 0),
		"Start -1, one entry":                           logOf(-1, 0, noneOf(0)),
		"Start MaxIndex + 1":                            logOf(100001, 0),
		"Start the least int":                           logOf(least, 0),
		"Start the least int, one entry":                logOf(least, 0, noneOf(1)),
		"Start the greatest int":                        logOf(most, 0),
		"Start the greatest int, one entry":             logOf(most, 0, noneOf(1)),
		"Start the greatest int, MaxLog":                logOfMany(most, 1, 120),
		"Start the greatest int - 119, MaxLog":          logOfMany(most-119, 1, 120),
		"Start -119, MaxLog":                            logOfMany(-119, 1, 120),
		"Start 32 bits":                                 logOf(1<<32, 0),
		"StartTerm -1":                                  logOf(0, -1),
		"StartTerm -1, one entry":                       logOf(0, -1, noneOf(0)),
		"StartTerm MaxTerm + 1":                         logOf(0, 100001),
		"StartTerm MaxTerm + 1, one entry":              logOf(0, 100001, noneOf(100001)),
		"StartTerm the least int":                       logOf(0, least),
		"StartTerm the greatest int":                    logOf(0, most),
		"MaxLog + 1 entries":                            logOfMany(0, 0, 121),
		"far too many entries":                          logOfMany(0, 0, 5000),
		"the first Term below StartTerm":                logOf(0, 2, noneOf(1)),
		"the first Term below StartTerm, others behind": logOf(0, 2, noneOf(1), noneOf(2), noneOf(3)),
		"a later Term that falls":                       logOf(0, 2, noneOf(2), noneOf(4), noneOf(3)),
		"a later Term that falls below StartTerm":       logOf(0, 2, noneOf(2), noneOf(1)),
		"a Term that falls to 0":                        logOf(0, 0, noneOf(1), noneOf(0)),
		"a Term that falls, and rises again":            logOf(0, 0, noneOf(5), noneOf(4), noneOf(6)),
		"the last of MaxLog falls":                      logOf(0, 1, append(logOfMany(0, 1, 119).Entries, noneOf(0))...),
		"Start MaxIndex, one entry":                     logOf(100000, 0, noneOf(1)),
		"Start MaxIndex - 1, two entries":               logOfMany(99999, 0, 2),
		"Start MaxIndex - 119, MaxLog":                  logOfMany(99881, 0, 120),
	}
	for why, e := range wrongEntries() {
		term := max(min(e.Term, 100000), 0)
		all["the first entry: "+why] = logOf(3, term, e, noneOf(term))
		all["the last entry: "+why] = logOf(3, 0, noneOf(0), noneOf(term), e)
	}
	return all
}

func TestLogLimits(t *testing.T) {
	if impl.MaxLog != 120 || impl.NameLog != "log" || impl.NameLogNew != "log+" {
		t.Error("a constant of logs is not the document's")
	}
}

func TestLogOk(t *testing.T) {
	for why, l := range rightLogs() {
		wantLogOk(t, why, l, true)
	}
	for why, l := range wrongLogs() {
		wantLogOk(t, why, l, false)
	}
}

func TestLogOkAtEachNumber(t *testing.T) {
	odd := []int{math.MinInt, -1 << 32, -120, -1, 0, 1, 2, 99879, 99880, 99881, 99999, 100000, 100001, 1 << 32, math.MaxInt - 120, math.MaxInt}
	right := 0
	for _, start := range odd {
		for _, term := range odd {
			for _, count := range []int{0, 1, 2, 119, 120, 121, 122} {
				l := logOfMany(start, term, count)
				if got := impl.LogOk(l); got != plainLogOk(l) {
					t.Errorf("LogOk(%s) = %v", shortLog(l), got)
				} else if got {
					right++
				}
			}
		}
	}
	if right < 100 {
		t.Errorf("%d of them are right", right)
	}
}

func TestLogOkOfEachOrderOfTerms(t *testing.T) {
	for _, terms := range listsOf(5, 0, 1, 2, 3) {
		for term := range 4 {
			l := logOf(9, term)
			for _, n := range terms {
				l.Entries = append(l.Entries, noneOf(n))
			}
			wantLogOk(t, "an order of terms", l, slices.IsSorted(append(numbers(term), terms...)))
		}
	}
}

func TestLogLast(t *testing.T) {
	for _, c := range []struct {
		l           impl.Log
		index, term int
	}{
		{impl.Log{}, 0, 0},
		{logOf(7, 2), 7, 2},
		{logOf(0, 2), 0, 2},
		{logOf(7, 2, noneOf(2)), 8, 2},
		{logOf(7, 2, noneOf(5)), 8, 5},
		{logOf(7, 2, noneOf(3), noneOf(5), noneOf(9)), 10, 9},
		{ordinaryLog(), 6, 4},
		{logOf(100000, 100000), 100000, 100000},
		{logOfMany(99880, 3, 120), 100000, 3},
		{logOfMany(0, 1, 120), 120, 1},
		// These are not right, of which the document says nothing else.
		{logOf(-5, -3), -5, -3},
		{logOf(-5, -3, noneOf(8), noneOf(-2)), -3, -2},
		{logOf(100001, 9, noneOf(3)), 100002, 3},
		{logOfMany(0, 1, 121), 121, 1},
		{logOf(math.MaxInt, 9), math.MaxInt, 9},
		{logOf(math.MaxInt-1, 9, noneOf(3)), math.MaxInt, 3},
		{logOf(math.MinInt, 9, noneOf(3)), math.MinInt + 1, 3},
	} {
		if index, term := impl.LogLast(c.l); index != c.index || term != c.term {
			t.Errorf("LogLast(%s) = %d, %d; want %d, %d", shortLog(c.l), index, term, c.index, c.term)
		}
	}
	// An index that an int does not hold is any number, but it is told.
	impl.LogLast(logOfMany(math.MaxInt, 1, 9))
}

func TestLogTermOfEachIndex(t *testing.T) {
	l := ordinaryLog()
	for index, term := range map[int]int{0: -1, 1: -1, 2: 1, 3: 1, 4: 1, 5: 3, 6: 4, 7: -1, 8: -1, -1: -1, -2: -1, -3: -1, 100000: -1, 100001: -1} {
		if got := impl.LogTerm(l, index); got != term {
			t.Errorf("LogTerm(%s, %d) = %d; want %d", shortLog(l), index, got, term)
		}
	}
}

func TestLogTerms(t *testing.T) {
	const least, most = math.MinInt, math.MaxInt
	far := []int{least, least + 1, least + 100000, least + 100001, -1 << 62, -1 << 32, -100001, -100000, -121, -120, -2, -1, 1 << 32, 1 << 62, most - 100000, most - 1, most}
	for why, l := range rightLogs() {
		last, term := impl.LogLast(l)
		if last != l.Start+len(l.Entries) || impl.LogTerm(l, last) != term {
			t.Errorf("%s: LogLast(%s) = %d, %d, LogTerm of it %d", why, shortLog(l), last, term, impl.LogTerm(l, last))
		}
		for index := l.Start - 130; index < l.Start+260; index++ {
			if got := impl.LogTerm(l, index); got != plainLogTerm(l, index) {
				t.Errorf("%s: LogTerm(%s, %d) = %d", why, shortLog(l), index, got)
			}
		}
		for _, index := range far {
			if got := impl.LogTerm(l, index); got != -1 {
				t.Errorf("%s: LogTerm(%s, %d) = %d; want -1", why, shortLog(l), index, got)
			}
		}
	}
	for _, l := range []impl.Log{logOf(-5, -3, noneOf(8), noneOf(-2)), logOf(100001, 9, noneOf(3)), logOfMany(0, 1, 121), logOf(3, -7)} {
		for index := l.Start - 130; index < l.Start+260; index++ {
			if got := impl.LogTerm(l, index); got != plainLogTerm(l, index) {
				t.Errorf("not right: LogTerm(%s, %d) = %d", shortLog(l), index, got)
			}
		}
	}
}

// A log may begin where its indexes come to pass what an int holds: none of
// them goes on from the least one.
func TestLogTermOfIndexesThatAnIntDoesNotHold(t *testing.T) {
	const least, most = math.MinInt, math.MaxInt
	one, two := entries(noneOf(5)), entries(noneOf(5), noneOf(6))
	for _, c := range []struct {
		l           impl.Log
		index, term int
	}{
		{logOf(most, 3, one...), least, -1},
		{logOf(most, 3, one...), most, 3},
		{logOf(most, 3, one...), most - 1, -1},
		{logOf(most, 3, one...), least + 1, -1},
		{logOf(most-1, 3, two...), least, -1},
		{logOf(most-1, 3, two...), most, 5},
		{logOf(most-1, 3, two...), most - 1, 3},
		{logOf(most-1, 3, two...), most - 2, -1},
		{logOf(most-2, 3, two...), most, 6},
		{logOf(most-2, 3, two...), least, -1},
		{logOf(least, 3, one...), least, 3},
		{logOf(least, 3, one...), least + 1, 5},
		{logOf(least, 3, one...), least + 2, -1},
		{logOf(least, 3, one...), most, -1},
		{logOf(least, 3, one...), 0, -1},
		{logOf(-1, 3, two...), most, -1},
		{logOf(-1, 3, two...), least, -1},
		{logOf(-1, 3, two...), 0, 5},
		{logOf(-1, 3, two...), 1, 6},
		{logOf(0, 3, two...), least, -1},
		{logOf(1, 3, two...), least, -1},
		{logOf(most, 3), least, -1},
		{logOf(least, 3), most, -1},
	} {
		if got := impl.LogTerm(c.l, c.index); got != c.term {
			t.Errorf("LogTerm(%s, %d) = %d; want %d", shortLog(c.l), c.index, got, c.term)
		}
	}
	far := []int{least, least + 1, least + 2, least + 7, least + 119, least + 121, -1 << 62, -3, -1, 0, 1, 2, 1 << 62, most - 121, most - 119, most - 7, most - 2, most - 1, most}
	for _, start := range far {
		for _, count := range []int{0, 1, 2, 8, 120, 300} {
			l := logOf(start, 3)
			for at := range count {
				l.Entries = append(l.Entries, noneOf(10+at))
			}
			for _, index := range append(far, start-1, start+1, start+2, start+count-1, start+count, start+count+1) {
				if got := impl.LogTerm(l, index); got != plainLogTerm(l, index) {
					t.Errorf("LogTerm(%s, %d) = %d; want %d", shortLog(l), index, got, plainLogTerm(l, index))
				}
			}
		}
	}
}

func TestLogFilesByteByByte(t *testing.T) {
	for _, c := range []struct {
		l       impl.Log
		records []string
	}{
		{impl.Log{}, []string{"S\x00\x00"}},
		{logOf(7, 2), []string{"S\x07\x02"}},
		{logOf(128, 16384), []string{"S\x80\x01\x80\x80\x01"}},
		{logOf(100000, 100000), []string{"S\xa0\x8d\x06\xa0\x8d\x06"}},
		{ordinaryLog(), []string{"S\x02\x01", "E\x03\x01\x01", "E\x04\x01\x03x", "E\x05\x03\x02\x01\x02", "E\x06\x04\x03"}},
		{logOf(126, 0, noneOf(127), noneOf(128)), []string{"S\x7e\x00", "E\x7f\x7f\x01", "E\x80\x01\x80\x01\x01"}},
		{logOf(99999, 5, commandOf(100000, "\x00\xff")), []string{"S\x9f\x8d\x06\x05", "E\xa0\x8d\x06\xa0\x8d\x06\x03\x00\xff"}},
	} {
		want := plainFrames(c.records...)
		if file, ok := impl.LogFile(c.l); !ok || file != want {
			t.Errorf("LogFile(%s) = %q, %v; want %q", shortLog(c.l), file, ok, want)
		}
		wantRead(t, "written out", want, c.l, len(want))
	}
	file, ok := impl.LogFile(logOf(2, 1, noneOf(1)))
	if want := "\x03\x22\x27\x37\xf2S\x02\x01" + "\x04\xc7\x06\x97\x62E\x03\x01\x01"; !ok || file != want {
		t.Errorf("the file of a log of one entry is %q, not %q", file, want)
	}
	if file, ok := impl.LogFile(impl.Log{}); !ok || file != "\x03\x96\x2c\xc7\x74S\x00\x00" {
		t.Errorf("the file of a log without anything is %q", file)
	}
}

func TestRightLogsComeBack(t *testing.T) {
	for why, l := range rightLogs() {
		file := wantLogFile(t, why, l)
		wantRead(t, why, file, l, len(file))
	}
}

func TestLogFileOfWrongLogs(t *testing.T) {
	for why, l := range wrongLogs() {
		wantNoLogFile(t, why, l)
		if logHasFile(l) {
			wantNoLog(t, why, plainLogFile(l))
		}
	}
}

// No right log has a greater file than this, which is below MaxText.
func TestTheGreatestLogFile(t *testing.T) {
	e := commandOf(100000, letters(120))
	l := logOf(99880, 100000, slices.Repeat(entries(e), 120)...)
	file := wantLogFile(t, "the greatest", l)
	if len(file) != 12+120*134 {
		t.Errorf("the greatest file has %d bytes", len(file))
	}
	wantRead(t, "the greatest", file, l, len(file))
	l.Entries = append(l.Entries, e)
	wantNoLogFile(t, "an entry more", l)
	l.Start--
	wantNoLogFile(t, "an entry more", l)
	wantNoLog(t, "an entry more", plainLogFile(l))
}

// drawnTail has so many entries, whose terms go on from this one.
func drawnTail(d *drawing, count, term int) []impl.Entry {
	reach := min([]int{1, 3, 300, 100001}[d.below(4)], 100001-term)
	var terms []int
	for range count {
		terms = append(terms, term+d.below(reach))
	}
	slices.Sort(terms)
	var list []impl.Entry
	for _, n := range terms {
		e := drawnEntry(d)
		e.Term = n
		list = append(list, e)
	}
	return list
}

// drawnLog is right, with at most so many entries.
func drawnLog(d *drawing, most int) impl.Log {
	count := d.below(most + 1)
	start := d.below([]int{4, 300, 100001 - count}[d.below(3)])
	term := d.below([]int{3, 300, 100001}[d.below(3)])
	return logOf(start, term, drawnTail(d, count, term)...)
}

// cutLog has the first n entries.
func cutLog(l impl.Log, n int) impl.Log {
	return logOf(l.Start, l.StartTerm, slices.Clone(l.Entries[:n])...)
}

// drawnOnward has the first n entries, and some others behind them.
func drawnOnward(d *drawing, l impl.Log, n, most int) impl.Log {
	now := cutLog(l, n)
	room := min(most, 120-n, 100000-l.Start-n)
	if room > 0 {
		_, term := impl.LogLast(now)
		now.Entries = append(now.Entries, drawnTail(d, 1+d.below(room), term)...)
	}
	return now
}

// drawnOther is right, and what may come behind old.
func drawnOther(d *drawing, old impl.Log) impl.Log {
	n := d.below(len(old.Entries) + 1)
	switch d.below(7) {
	case 0:
		return cutLog(old, len(old.Entries))
	case 1:
		return drawnOnward(d, old, len(old.Entries), 5)
	case 2:
		return drawnOnward(d, old, n, 9)
	case 3:
		return cutLog(old, n)
	case 4:
		return plainLogBehind(old, old.Start+n, plainLogTerm(old, old.Start+n))
	case 5:
		now := cutLog(old, len(old.Entries))
		now.StartTerm = d.below(now.StartTerm + 1)
		return now
	}
	return drawnLog(d, 9)
}

func TestDrawnLogsComeBack(t *testing.T) {
	d := &drawing{state: 40}
	many := 0
	for n := range 1500 {
		l := drawnLog(d, []int{2, 9, 9, 120}[n%4])
		wantLogOk(t, "a drawn one", l, true)
		file := wantLogFile(t, "a drawn one", l)
		wantRead(t, "a drawn one", file, l, len(file))
		if len(l.Entries) > 9 {
			many++
		}
	}
	if many < 200 {
		t.Errorf("%d of the drawn ones have many entries", many)
	}
}

func TestDrawnLogsSpoiled(t *testing.T) {
	d := &drawing{state: 41}
	right := 0
	for range 3000 {
		l := drawnLog(d, 9)
		odd := []int{-1, 0, 1, 2, 300, 99999, 100000, 100001, math.MaxInt, math.MinInt}[d.below(10)]
		n := d.below(len(l.Entries) + 1)
		switch d.below(5) {
		case 0:
			l.Start = odd
		case 1:
			l.StartTerm = odd
		case 2:
			l.Entries = slices.Insert(l.Entries, n, drawnEntry(d))
		case 3:
			l.Entries = slices.Insert(l.Entries, n, commandOf(odd, ""))
		case 4:
			l.Entries = slices.Insert(l.Entries, n, commandOf(l.StartTerm, d.bytes(130)))
		}
		wantLogOk(t, "spoiled", l, plainLogOk(l))
		wantLogFile(t, "spoiled", l)
		if logHasFile(l) && l.Start < 1<<32 && wantLog(t, "spoiled", plainLogFile(l)) {
			right++
		}
	}
	if right < 300 || right > 2700 {
		t.Errorf("%d of the spoiled ones are right", right)
	}
}

func TestFilesOfNoLog(t *testing.T) {
	start, entry := startRecord(2, 1), plainEntryText(3, noneOf(1))
	for why, file := range map[string]string{
		"the empty file":                  "",
		"a byte":                          "S",
		"no frame":                        start,
		"torn bytes":                      "torn bytes",
		"noughts":                         strings.Repeat("\x00", 300),
		"an S that is torn":               turned(plainFrame(start), 6, 1),
		"an S that is cut off":            plainFrame(start)[:7],
		"an S that is torn, one behind":   turned(plainFrame(start), 6, 1) + plainFrame(start),
		"an entry alone":                  plainFrame(entry),
		"an entry first":                  plainFrames(entry, start),
		"an entry first, of index 1":      plainFrames(plainEntryText(1, noneOf(0))),
		"an entry ahead of an S":          plainFrames(entry, start, entry),
		"something else first":            plainFrames("x", start, entry),
		"something else alone":            plainFrame("x"),
		"a batch":                         segmentOf(batchOf(1, set("a", "x"))),
		"an S sealed":                     plainSealed(start),
		"a frame of an S's frame":         plainFrame(plainFrame(start)),
		"a byte ahead":                    "\x00" + plainFrames(start, entry),
		"a manifest":                      plainManifestText(ordinary()),
		"a whole log of MaxText + 1":      plainLogFile(ordinaryLog()) + letters(20001),
		"a whole log far behind MaxText":  plainLogFile(ordinaryLog()) + letters(100000),
		"an S with words behind":          plainFrame(start + "words"),
		"an S of Start MaxIndex + 1":      plainFrame(startRecord(100001, 1)),
		"an S of StartTerm MaxTerm + 1":   plainFrame(startRecord(2, 100001)),
		"an S of MaxNumber":               plainFrame(startRecord(1000000000, 1)),
		"an S of MaxNumber + 1":           plainFrame(startRecord(1000000001, 1)),
		"an S of Start MaxIndex, and one": plainFrames(startRecord(100000, 1), plainEntryText(100000, noneOf(1))),
	} {
		wantNoLog(t, why, file)
		if wantLog(t, why, file) {
			t.Errorf("%s: the plain rule takes it", why)
		}
	}
}

// oddRecords are neither an S nor an entry.
func oddRecords() map[string]string {
	return map[string]string{
		"a byte":                             "x",
		"a nought":                           "\x00",
		"S alone":                            "S",
		"S with one number":                  "S\x02",
		"S with three numbers":               "S\x02\x01\x00",
		"S with a byte behind":               "S\x02\x01x",
		"S twice":                            "SS\x02\x01",
		"a little s":                         "s\x02\x01",
		"no S":                               "\x02\x01",
		"S in figures":                       "S 2 1",
		"S with a blank":                     "S \x02\x01",
		"S, a longer form of Start":          "S\x82\x00\x01",
		"S, a longer form of StartTerm":      "S\x02\x81\x00",
		"S, a longer form of both":           "S\x82\x00\x81\x00",
		"S, a longer form of 0":              "S\x80\x00\x00",
		"S, a longer form of StartTerm 0":    "S\x00\x80\x00",
		"S, a far longer form":               "S\x82\x80\x80\x80\x00\x01",
		"S, a longer form of 128":            "S\x80\x81\x00\x01",
		"S, a number without an end":         "S\x02\x81",
		"S, a number without an end, of 255": "S" + strings.Repeat("\xff", 9),
		"S beyond MaxNumber":                 startRecord(1000000001, 1),
		"S, StartTerm beyond MaxNumber":      startRecord(2, 1000000001),
		"S with an entry behind":             "S\x02\x01E\x03\x01\x01",
		"E alone":                            "E",
		"an entry of index 0":                "E\x00\x01\x01",
		"an entry of MaxIndex + 1":           plainEntryText(100001, noneOf(1)),
		"an entry with a byte behind":        "E\x03\x01\x01x",
		"an entry cut off":                   "E\x03\x01",
		"an entry of no Kind":                "E\x03\x01\x04",
		"an entry of no conf":                "E\x03\x01\x02\x02\x01",
		"an entry of MaxTerm + 1":            plainEntryText(3, noneOf(100001)),
		"an entry of too much Data":          plainEntryText(3, commandOf(1, letters(121))),
		"an entry, a longer form":            "E\x83\x00\x01\x01",
		"an entry, a longer form of Term":    "E\x03\x81\x00\x01",
		"a little e":                         "e\x03\x01\x01",
		"a batch":                            plainBatchText(batchOf(3, set("a", "x"))),
		"a frame":                            plainFrame("S\x02\x01"),
		"many bytes":                         letters(9000),
	}
}

func TestRecordsThatAreNeither(t *testing.T) {
	start, entry := startRecord(2, 1), plainEntryText(3, noneOf(1))
	for why, odd := range oddRecords() {
		for place, file := range map[string]string{
			"alone":                    plainFrame(odd),
			"first":                    plainFrames(odd, start, entry),
			"behind an S":              plainFrames(start, odd),
			"ahead of an entry":        plainFrames(start, odd, entry),
			"behind an entry":          plainFrames(start, entry, odd),
			"ahead of another S":       plainFrames(start, entry, odd, start, entry),
			"ahead of torn bytes":      plainFrames(start, entry, odd) + "torn",
			"behind another S":         plainFrames(start, entry, start, odd),
			"ahead of one of the same": plainFrames(start, odd, odd),
		} {
			wantNoLog(t, why+", "+place, file)
		}
		torn := turned(plainFrame(odd), 5, 128)
		file := plainFrames(start, entry)
		wantRead(t, why+", torn", file+torn, logOf(2, 1, noneOf(1)), len(file))
		wantRead(t, why+", behind what is torn", file+"torn"+plainFrame(odd), logOf(2, 1, noneOf(1)), len(file))
	}
}

func TestStartsReadBack(t *testing.T) {
	for _, start := range []int{0, 1, 127, 128, 16383, 16384, 99999, 100000, 100001, 2097152, 1000000000} {
		for _, term := range []int{0, 1, 127, 128, 16383, 16384, 99999, 100000, 100001, 2097152, 1000000000} {
			file := plainFrame(startRecord(start, term))
			if start > 100000 || term > 100000 {
				wantNoLog(t, "an S", file)
			} else {
				wantRead(t, "an S", file, logOf(start, term), len(file))
			}
			wantRead(t, "an S ahead", file+plainLogFile(ordinaryLog()), ordinaryLog(), len(file+plainLogFile(ordinaryLog())))
			record := startRecord(start, term)
			for at := 1; at < len(record); at++ {
				if record[at] < 128 {
					wantNoLog(t, "a longer form", plainFrame(longer(record, at)))
				}
				wantLog(t, "cut off", plainFrame(record[:at]))
			}
		}
	}
}

func TestASecondStartBeginsAnew(t *testing.T) {
	a, b := ordinaryLog(), logOf(9, 4, noneOf(4), commandOf(5, "y"))
	fileA, fileB := plainLogFile(a), plainLogFile(b)
	wantRead(t, "another behind", fileA+fileB, b, len(fileA+fileB))
	wantRead(t, "a lesser one behind", fileB+fileA, a, len(fileA+fileB))
	wantRead(t, "the same behind", fileA+fileA, a, len(fileA+fileA))
	wantRead(t, "three of them", fileA+fileB+fileA, a, len(fileA+fileB+fileA))
	start := plainFrame(startRecord(100, 7))
	wantRead(t, "an S without entries behind", fileA+start, logOf(100, 7), len(fileA+start))
	wantRead(t, "two S", start+start, logOf(100, 7), len(start+start))
	wantRead(t, "an S of the same Start behind", fileA+plainFrame("S\x02\x00"), logOf(2, 0), len(fileA)+8)
	wantNoLog(t, "an index of what was", fileA+start+plainFrame(plainEntryText(7, noneOf(9))))
	wantNoLog(t, "an index of what was, lesser", fileB+plainFrame("S\x02\x00")+plainFrame(plainEntryText(12, noneOf(9))))
	more := plainFrame(plainEntryText(101, noneOf(7)))
	wantRead(t, "an entry behind it", fileA+start+more, logOf(100, 7, noneOf(7)), len(fileA+start+more))
	wantNoLog(t, "the last S is of no right log", fileA+plainFrame(startRecord(100001, 7)))
	wantRead(t, "torn behind", fileA+start+"torn", logOf(100, 7), len(fileA+start))
	wantRead(t, "a torn S", fileA+turned(start, 7, 3), a, len(fileA))
	// What was ahead of an S need not have been a right log.
	falls := plainLogFile(logOf(3, 5, noneOf(4)))
	wantRead(t, "a Term that fell", falls+fileA, a, len(falls+fileA))
	long := plainLogFile(logOfMany(0, 0, 121))
	wantRead(t, "too long", long+fileA, a, len(long+fileA))
}

func TestEntriesThatTakeThePlaceOfOthers(t *testing.T) {
	l := ordinaryLog()
	file := plainLogFile(l)
	for place := range len(l.Entries) + 1 {
		for _, e := range []impl.Entry{noneOf(4), commandOf(9, "new"), confOf(100000, "\x03")} {
			more := plainFrame(plainEntryText(l.Start+1+place, e))
			want := cutLog(l, place)
			want.Entries = append(want.Entries, e)
			wantRead(t, "one taken", file+more, want, len(file+more))
			again := plainFrame(plainEntryText(l.Start+2+place, e))
			want.Entries = append(want.Entries, e)
			wantRead(t, "one behind it", file+more+again, want, len(file+more+again))
			// What was behind is gone: its indexes are too high now.
			high := plainFrame(plainEntryText(l.Start+3+place, e))
			wantNoLog(t, "one too high", file+more+high)
			wantRead(t, "all of them anew", file+more+file, l, len(file+more+file))
		}
		same := l.Entries[min(place, len(l.Entries)-1)]
		more := plainFrame(plainEntryText(l.Start+1+min(place, len(l.Entries)-1), same))
		wantRead(t, "the same again", file+more, cutLog(l, min(place+1, len(l.Entries))), len(file+more))
	}
}

func TestIndexesThatAreNotSo(t *testing.T) {
	for _, l := range []impl.Log{ordinaryLog(), logOf(2, 1), logOf(0, 0), logOfMany(300, 2, 9), logOfMany(99990, 2, 9)} {
		file := plainLogFile(l)
		last := l.Start + len(l.Entries)
		for index := max(0, l.Start-140); index < last+140; index++ {
			more := plainFrame(plainEntryText(index, noneOf(50000)))
			if index >= 1 && index > l.Start && index <= last+1 && index <= 100000 {
				want := cutLog(l, index-l.Start-1)
				want.Entries = append(want.Entries, noneOf(50000))
				wantRead(t, "a right index", file+more, want, len(file+more))
			} else {
				wantNoLog(t, "an index that is not so", file+more)
			}
		}
	}
	wantNoLog(t, "the index Start", plainFrames("S\x02\x01", plainEntryText(2, noneOf(1))))
	wantNoLog(t, "the index Start + 2", plainFrames("S\x02\x01", plainEntryText(4, noneOf(1))))
	wantNoLog(t, "the index Start, behind entries", plainLogFile(ordinaryLog())+plainFrame(plainEntryText(2, noneOf(9))))
	wantNoLog(t, "the last index + 2", plainLogFile(ordinaryLog())+plainFrame(plainEntryText(8, noneOf(9))))
}

// Just the log that comes in the end has to be right.
func TestLogsThatAreNotRightOnTheWay(t *testing.T) {
	falls := plainLogFile(logOf(3, 5, noneOf(6), noneOf(4)))
	wantNoLog(t, "a Term that falls", falls)
	right := falls + plainFrame(plainEntryText(5, noneOf(7)))
	wantRead(t, "another in its place", right, logOf(3, 5, noneOf(6), noneOf(7)), len(right))
	right = falls + plainFrame(plainEntryText(4, noneOf(5)))
	wantRead(t, "gone with what was ahead", right, logOf(3, 5, noneOf(5)), len(right))
	wantNoLog(t, "an entry behind it", falls+plainFrame(plainEntryText(6, noneOf(9))))
	wantNoLog(t, "one that falls in the place of another", plainLogFile(ordinaryLog())+plainFrame(plainEntryText(6, noneOf(2))))
	wantNoLog(t, "one below StartTerm in the place of the first", plainLogFile(ordinaryLog())+plainFrame(plainEntryText(3, noneOf(0))))
	for _, count := range []int{121, 122, 200, 2000} {
		l := logOfMany(0, 0, count)
		long := plainLogFile(l)
		wantNoLog(t, "too long", long)
		for _, place := range []int{0, 1, 60, 118, 119, 120} {
			more := plainFrame(plainEntryText(place+1, noneOf(9)))
			want := cutLog(l, place)
			want.Entries = append(want.Entries, noneOf(9))
			if len(long+more) > 20000 {
				t.Fatalf("%d entries are %d bytes", count, len(long+more))
			}
			if place < 120 {
				wantRead(t, "too long, but cut", long+more, want, len(long+more))
			} else {
				wantNoLog(t, "cut by too little", long+more)
			}
		}
	}
}

func TestLogsOfMaxLogEntriesRead(t *testing.T) {
	for _, start := range []int{0, 5, 99880} {
		l := logOfMany(start, 3, 120)
		file := plainLogFile(l)
		wantRead(t, "MaxLog entries", file, l, len(file))
		wantNoLog(t, "one more", file+plainFrame(plainEntryText(start+121, noneOf(3))))
		more := plainFrame(plainEntryText(start+120, noneOf(4)))
		now := cutLog(l, 119)
		now.Entries = append(now.Entries, noneOf(4))
		wantRead(t, "the last one anew", file+more, now, len(file+more))
	}
}

// logsToCut are some of few bytes, for what is done at every byte.
func logsToCut() map[string]impl.Log {
	return map[string]impl.Log{
		"nothing at all":  {},
		"no entries":      logOf(300, 2),
		"an ordinary one": ordinaryLog(),
		"one of commands": logOf(126, 3, commandOf(3, letters(120)), commandOf(200, ""), confOf(200, "\x01\x02\x03\x04"), commandOf(99999, "E\x01\x01\x01")),
		"ten alike":       logOfMany(5, 1, 10),
	}
}

// logAhead is the log of the whole frames among the first size bytes of the
// file of l, and where they end; how many frames these are.
func logAhead(l impl.Log, size int) (impl.Log, int, int) {
	end := len(plainFrame(startRecord(l.Start, l.StartTerm)))
	if size < end {
		return impl.Log{}, 0, 0
	}
	for at, record := range recordsFrom(l, 0) {
		if end+len(plainFrame(record)) > size {
			return cutLog(l, at), end, at + 1
		}
		end += len(plainFrame(record))
	}
	return l, end, len(l.Entries) + 1
}

func TestLogFilesCutAnywhere(t *testing.T) {
	for why, l := range logsToCut() {
		file := plainLogFile(l)
		for size := range len(file) + 1 {
			want, end, frames := logAhead(l, size)
			if frames == 0 {
				wantNoLog(t, why+", cut", file[:size])
				continue
			}
			wantRead(t, why+", cut", file[:size], want, end)
			wantRead(t, why+", cut, noughts behind", file[:size]+strings.Repeat("\x00", 9), want, end)
			wantLog(t, why+", cut, the same behind", file[:size]+file)
		}
	}
}

func TestLogFilesWithAByteTurned(t *testing.T) {
	for why, l := range logsToCut() {
		file := plainLogFile(l)
		for at := range len(file) {
			want, end, frames := logAhead(l, at)
			for _, by := range []int{1, 2, 4, 8, 16, 32, 64, 128, 255} {
				if frames == 0 {
					wantNoLog(t, why+", a byte turned", turned(file, at, by))
				} else {
					wantRead(t, why+", a byte turned", turned(file, at, by), want, end)
				}
			}
			wantLog(t, why+", a byte left out", file[:at]+file[at+1:])
			wantLog(t, why+", a byte twice", file[:at+1]+file[at:])
		}
	}
}

func TestTornBytesBehindALog(t *testing.T) {
	for why, l := range logsToCut() {
		file := plainLogFile(l)
		for tornWhy, torn := range bytesBehind() {
			if wantLog(t, why+", "+tornWhy, file+torn) && len(torn) < 5 {
				wantRead(t, why+", "+tornWhy, file+torn, l, len(file))
			}
		}
		for b := range 256 {
			wantRead(t, why+", a byte behind", file+string([]byte{byte(b)}), l, len(file))
		}
		for _, torn := range []string{"\x00\x00\x00\x00\x00", "\x03torn", plainFrame("S\x00\x00")[:7], letters(300), turned(plainFrame("x"), 5, 1)} {
			wantRead(t, why+", torn", file+torn, l, len(file))
			wantRead(t, why+", torn, whole ones behind", file+torn+file, l, len(file))
		}
		wantRead(t, why+", MaxText bytes", file+letters(20000-len(file)), l, len(file))
		wantNoLog(t, why+", MaxText + 1 bytes", file+letters(20001-len(file)))
	}
}

func TestDrawnLogFiles(t *testing.T) {
	d := &drawing{state: 42}
	right := 0
	for range 3000 {
		l := drawnLog(d, 6)
		records := append([]string{startRecord(l.Start, l.StartTerm)}, recordsFrom(l, 0)...)
		for range d.below(6) {
			near := max(0, l.Start+d.below(len(l.Entries)+4)-1)
			odd := []string{
				plainEntryText(near, noneOf(d.below(100002))),
				plainEntryText(near, drawnEntry(d)),
				plainEntryText(near, commandOf(100000, "z")),
				records[d.below(len(records))],
				startRecord(l.Start, 0),
				startRecord(d.below(100003), d.below(3)),
				d.bytes(4) + "x",
			}
			n := d.below(len(odd) + 8)
			at := d.below(len(records) + 1)
			if n < len(odd) {
				records = slices.Insert(records, at, odd[n])
			} else {
				records = append(records, odd[n%3])
			}
		}
		file := plainFrames(records...)
		if d.below(4) == 0 {
			file += d.bytes(12)
		}
		if d.below(4) == 0 {
			file = turned(file, d.below(len(file)), d.below(256))
		}
		if wantLog(t, "a drawn file", file) {
			right++
		}
	}
	if right < 500 || right > 2500 {
		t.Errorf("%d of the drawn files are right", right)
	}
}

// fileOfSize is of a log with one entry, which was taken the place of as often
// as makes just this many bytes.
func fileOfSize(n int) (string, impl.Log) {
	file := plainFrame(startRecord(0, 0))
	data := ""
	for rest := n - len(file); rest > 0; rest = n - len(file) {
		data = letters(min(120, rest-9))
		if rest > 129 && rest < 129+9 {
			data = letters(50)
		}
		file += plainFrame(plainEntryText(1, commandOf(1, data)))
	}
	return file, logOf(0, 0, commandOf(1, data))
}

func TestReadLogOfMaxTextBytes(t *testing.T) {
	for n := 19800; n <= 20000; n++ {
		file, l := fileOfSize(n)
		if len(file) != n {
			t.Fatalf("a file of %d bytes, not %d", len(file), n)
		}
		wantRead(t, "much taken the place of", file, l, n)
	}
	file, _ := fileOfSize(20001)
	wantNoLog(t, "MaxText + 1", file)
	file, _ = fileOfSize(30000)
	wantNoLog(t, "far too long", file)
}

func TestStepsByHand(t *testing.T) {
	old := ordinaryLog()
	file := plainLogFile(old)
	e := commandOf(5, "new")
	with := func(n int, list ...impl.Entry) impl.Log {
		l := cutLog(old, n)
		l.Entries = append(l.Entries, list...)
		return l
	}
	wantSteps(t, "the same", file, old, ordinaryLog())
	wantSteps(t, "one added", file, old, with(4, e), add("log", plainFrame("E\x07\x05\x03new")))
	wantSteps(t, "two added", file, old, with(4, e, e), add("log", plainFrames("E\x07\x05\x03new", "E\x08\x05\x03new")))
	wantSteps(t, "the last one anew", file, old, with(3, e), add("log", plainFrame("E\x06\x05\x03new")))
	wantSteps(t, "another Data alone", file, old, with(3, commandOf(4, "y")), add("log", plainFrame("E\x06\x04\x03y")))
	wantSteps(t, "another Term alone", file, old, with(3, commandOf(3, "")), add("log", plainFrame("E\x06\x03\x03")))
	wantSteps(t, "another Kind alone", file, old, with(3, noneOf(4)), add("log", plainFrame("E\x06\x04\x01")))
	wantSteps(t, "one anew, and one behind", file, old, with(3, e, noneOf(6)), add("log", plainFrames("E\x06\x05\x03new", "E\x07\x06\x01")))
	wantSteps(t, "the second anew, fewer behind", file, old, with(1, e), add("log", plainFrame("E\x04\x05\x03new")))
	wantSteps(t, "all anew", file, old, with(0, e), add("log", plainFrame("E\x03\x05\x03new")))
	wantSteps(t, "all anew, many", file, old, with(0, e, e, e, e, e),
		add("log", plainFrames("E\x03\x05\x03new", "E\x04\x05\x03new", "E\x05\x05\x03new", "E\x06\x05\x03new", "E\x07\x05\x03new")))
	// The entries behind the first that is another come again, also those that are the same.
	mid := logOf(2, 1, noneOf(1), commandOf(1, "other"), confOf(3, "\x01\x02"), commandOf(4, ""))
	wantSteps(t, "one amid others", file, old, mid, add("log", plainFrames("E\x04\x01\x03other", "E\x05\x03\x02\x01\x02", "E\x06\x04\x03")))
	for n := range 4 {
		now := with(n)
		wantSteps(t, "fewer", file, old, now, put("log+", plainLogFile(now)), move("log+", "log"))
	}
	for why, now := range map[string]impl.Log{
		"another Start":                 logOf(3, 1, old.Entries...),
		"a lesser Start":                logOf(1, 1, old.Entries...),
		"another StartTerm":             logOf(2, 0, old.Entries...),
		"another Start, no entries":     logOf(9, 1),
		"another StartTerm, no entries": logOf(2, 9),
		"another StartTerm, one more":   logOf(2, 0, append(slices.Clone(old.Entries), e)...),
		"another Start, one more":       logOf(3, 1, append(slices.Clone(old.Entries), e)...),
		"behind an entry":               logOf(4, 1, old.Entries[2:]...),
		"nothing at all":                {},
	} {
		wantSteps(t, why, file, old, now, put("log+", plainLogFile(now)), move("log+", "log"))
		back := plainLogFile(now)
		wantSteps(t, why+", back", back, now, old, put("log+", file), move("log+", "log"))
	}
	empty := plainLogFile(impl.Log{})
	wantSteps(t, "nothing, the same", empty, impl.Log{}, impl.Log{})
	wantSteps(t, "the first", empty, impl.Log{}, logOf(0, 0, noneOf(0)), add("log", plainFrame("E\x01\x00\x01")))
}

func TestStepsBetweenAllRightLogs(t *testing.T) {
	for why, old := range rightLogs() {
		file := plainLogFile(old)
		for _, now := range []impl.Log{ordinaryLog(), {}, logOf(3, 0, noneOf(2)), logOfMany(0, 0, 120), logOfMany(5, 7, 12), logOfMany(5, 1, 120), old} {
			wantPlainSteps(t, why, file, old, now)
			wantPlainSteps(t, why+", to it", plainLogFile(now), now, old)
		}
	}
}

// A file need not be LogFile of the log that it tells.
func TestStepsFromOtherFilesOfALog(t *testing.T) {
	old := ordinaryLog()
	entry := func(index int, e impl.Entry) string { return plainFrame(plainEntryText(index, e)) }
	for why, file := range map[string]string{
		"twice":                       plainLogFile(old) + plainLogFile(old),
		"behind another log":          plainLogFile(logOfMany(70, 9, 5)) + plainLogFile(old),
		"with the last taken":         plainLogFile(cutLog(old, 3)) + entry(6, commandOf(9, "was")) + entry(6, old.Entries[3]),
		"with more that was":          plainLogFile(old) + entry(7, noneOf(9)) + entry(6, old.Entries[3]),
		"with all taken":              plainLogFile(logOf(2, 1, noneOf(8), noneOf(9))) + plainLogFile(old)[8:],
		"behind one that falls":       plainLogFile(logOf(2, 9, noneOf(8))) + plainLogFile(old),
		"behind an S too great":       plainFrame(startRecord(100001, 0)) + plainLogFile(old),
		"behind one that is too long": plainLogFile(logOfMany(0, 0, 121)) + plainLogFile(old),
	} {
		wantRead(t, why, file, old, len(file))
		wantSteps(t, why+", the same", file, old, old)
		wantSteps(t, why+", fewer", file, old, cutLog(old, 2), put("log+", plainLogFile(cutLog(old, 2))), move("log+", "log"))
		more := logOf(2, 1, append(slices.Clone(old.Entries), noneOf(7))...)
		wantSteps(t, why+", one added", file, old, more, add("log", entry(7, noneOf(7))))
		wantStepsCutAnywhere(t, why, file, old, more)
		wantStepsCutAnywhere(t, why, file, old, logOf(2, 1, noneOf(1), noneOf(2), noneOf(3)))
		wantStepsCutAnywhere(t, why, file, old, logOf(2, 0))
	}
}

func TestStepsOfMaxTextBytes(t *testing.T) {
	for _, list := range [][]impl.Entry{
		entries(noneOf(1)),
		entries(commandOf(1, letters(120))),
		entries(noneOf(1), noneOf(1), commandOf(2, letters(20))),
		slices.Repeat(entries(commandOf(3, letters(77))), 119),
	} {
		size := len(plainFrames(recordsFrom(logOf(1, 1, list...), 0)...))
		for _, n := range []int{19900, 19999, 20000, 20001, 20002, 20100} {
			if n-size > 20000 {
				continue
			}
			file, old := fileOfSize(n - size)
			now := logOf(0, 0, append(slices.Clone(old.Entries), list...)...)
			if n <= 20000 {
				left := wantSteps(t, "room enough", file, old, now, add("log", plainFrames(recordsFrom(now, 1)...)))
				if len(left) != n {
					t.Errorf("%d bytes are left, not %d", len(left), n)
				}
			} else {
				wantSteps(t, "no room", file, old, now, put("log+", plainLogFile(now)), move("log+", "log"))
			}
		}
	}
	file, old := fileOfSize(20000)
	wantSteps(t, "MaxText bytes, the same", file, old, old)
	wantSteps(t, "MaxText bytes, one anew", file, old, logOf(0, 0, noneOf(9)), put("log+", plainLogFile(logOf(0, 0, noneOf(9)))), move("log+", "log"))
	wantSteps(t, "MaxText bytes, fewer", file, old, impl.Log{}, put("log+", plainLogFile(impl.Log{})), move("log+", "log"))
	file, old = fileOfSize(20001)
	wantNoSteps(t, "MaxText + 1 bytes, the same", file, old, old)
	wantNoSteps(t, "MaxText + 1 bytes, fewer", file, old, impl.Log{})
}

func TestStepsAtMaxLog(t *testing.T) {
	old := logOfMany(0, 1, 119)
	file := plainLogFile(old)
	now := logOfMany(0, 1, 120)
	wantSteps(t, "up to MaxLog", file, old, now, add("log", plainFrame(plainEntryText(120, noneOf(1)))))
	wantNoSteps(t, "one more", file, old, logOfMany(0, 1, 121))
	wantNoSteps(t, "one more than MaxLog", plainLogFile(now), now, logOfMany(0, 1, 121))
	wantNoSteps(t, "from one more", plainLogFile(logOfMany(0, 1, 121)), logOfMany(0, 1, 121), now)
	old, now = logOfMany(99990, 1, 9), logOfMany(99990, 1, 10)
	wantSteps(t, "up to MaxIndex", plainLogFile(old), old, now, add("log", plainFrame(plainEntryText(100000, noneOf(1)))))
	wantNoSteps(t, "behind MaxIndex", plainLogFile(now), now, logOfMany(99990, 1, 11))
}

func TestStepsOfAnotherFile(t *testing.T) {
	old := ordinaryLog()
	now := logOf(2, 1, append(slices.Clone(old.Entries), noneOf(9))...)
	file := plainLogFile(old)
	for why, wrong := range map[string]string{
		"the empty file":       "",
		"words":                "no log",
		"the file of now":      plainLogFile(now),
		"one entry less":       plainLogFile(cutLog(old, 3)),
		"no entries":           plainLogFile(cutLog(old, 0)),
		"another Start":        plainLogFile(logOf(3, 1, old.Entries...)),
		"another StartTerm":    plainLogFile(logOf(2, 0, old.Entries...)),
		"another entry":        plainLogFile(logOf(2, 1, noneOf(1), commandOf(1, "y"), confOf(3, "\x01\x02"), commandOf(4, ""))),
		"a byte behind":        file + "\x00",
		"torn bytes behind":    file + plainFrame("E\x07\x09\x01")[:8],
		"a torn frame":         file + turned(plainFrame("E\x07\x09\x01"), 6, 1),
		"a byte cut off":       file[:len(file)-1],
		"a byte turned":        turned(file, len(file)-1, 1),
		"the first one turned": turned(file, 0, 1),
		"a record of neither":  file + plainFrame("x"),
		"one entry more":       file + plainFrame("E\x07\x08\x01"),
		"one taken":            file + plainFrame("E\x06\x09\x01"),
		"a whole S behind":     file + plainFrame("S\x02\x01"),
		"much behind":          file + letters(20001),
	} {
		wantNoSteps(t, why, wrong, old, now)
		wantNoSteps(t, why+", the same", wrong, old, old)
		wantNoSteps(t, why+", fewer", wrong, old, cutLog(old, 1))
		wantNoSteps(t, why+", another Start", wrong, old, logOf(9, 9))
	}
	for size := range len(file) {
		wantNoSteps(t, "cut off", file[:size], old, now)
		wantNoSteps(t, "cut off, the same", file[:size], old, old)
		wantNoSteps(t, "cut off, fewer", file[:size], old, impl.Log{})
	}
}

func TestStepsOfWrongLogs(t *testing.T) {
	old := ordinaryLog()
	file := plainLogFile(old)
	for why, wrong := range wrongLogs() {
		wantNoSteps(t, "to "+why, file, old, wrong)
		wantNoSteps(t, "from "+why, file, wrong, old)
		wantNoSteps(t, "from the file of nothing, "+why, plainLogFile(impl.Log{}), wrong, impl.Log{})
		wantNoSteps(t, "from the empty file, "+why, "", wrong, old)
		wantNoSteps(t, "the same, "+why, file, wrong, wrong)
		if logHasFile(wrong) {
			wantNoSteps(t, "from its file, "+why, plainLogFile(wrong), wrong, old)
			wantNoSteps(t, "its file, the same, "+why, plainLogFile(wrong), wrong, wrong)
		}
	}
}

// wantStepsCutAnywhere cuts the raw writes at every byte: the log is the old
// one, or that of now, or (of one that is added to) what both have and the
// first ones of what comes.
func wantStepsCutAnywhere(t *testing.T, why string, file string, old, now impl.Log) {
	t.Helper()
	list, ok := impl.LogSteps(file, old, now)
	if !ok {
		t.Errorf("%s: LogSteps(%.60q, %s, %s) is false", why, file, shortLog(old), shortLog(now))
	}
	disk := diskOf("log", file)
	for whole := range len(list) + 1 {
		more := ""
		if whole < len(list) {
			more = list[whole].Text
		}
		for part := range len(more) + 1 {
			cut, ok := impl.CutRaws(disk, list, whole, part)
			left, there := impl.FileAt(cut, "log")
			if !ok || !there {
				t.Errorf("%s: cut behind %d and %d bytes: %s, %v", why, whole, part, short(cut), ok)
				continue
			}
			switch {
			case whole == len(list):
				wantRead(t, why+", all done", left, now, len(left))
			case list[whole].Kind == impl.RawAdd:
				wantAddCut(t, why, file, old, now, left)
			default:
				if left != file {
					t.Errorf("%s: the file is another ahead of the move", why)
				}
			}
		}
	}
}

// wantAddCut is of a file that some bytes of what is added came behind.
func wantAddCut(t *testing.T, why string, file string, old, now impl.Log, left string) {
	t.Helper()
	same := firstOther(old, now)
	want, end := old, len(file)
	for at, record := range recordsFrom(now, same) {
		if end+len(plainFrame(record)) > len(left) {
			break
		}
		end += len(plainFrame(record))
		want = cutLog(now, same+at+1)
	}
	wantLogOk(t, why+", cut", want, true)
	wantRead(t, why+", cut", left, want, end)
	if firstOther(want, old) < same || firstOther(want, now) < same {
		t.Errorf("%s: the log %s has not what %s and %s have", why, shortLog(want), shortLog(old), shortLog(now))
	}
	if end < len(left) {
		wantNoSteps(t, why+", torn", left, want, now)
	}
	// Without what is torn it goes on to what it was to be.
	wantSteps(t, why+", once more", left[:end], want, now, stepsOf(t, left[:end], want, now)...)
}

func stepsOf(t *testing.T, file string, old, now impl.Log) []impl.Raw {
	t.Helper()
	list, ok := impl.LogSteps(file, old, now)
	if !ok {
		t.Errorf("LogSteps(%.60q, %s, %s) is false", file, shortLog(old), shortLog(now))
	}
	return list
}

func TestStepsCutAnywhere(t *testing.T) {
	old := ordinaryLog()
	file := plainLogFile(old)
	for n := range len(old.Entries) + 1 {
		wantStepsCutAnywhere(t, "fewer", file, old, cutLog(old, n))
		for _, list := range [][]impl.Entry{
			entries(noneOf(4)),
			entries(noneOf(7)),
			entries(commandOf(7, "abc"), confOf(7, "\x01"), noneOf(100000)),
			entries(commandOf(4, ""), commandOf(4, ""), commandOf(4, ""), commandOf(4, "")),
			entries(commandOf(4, letters(120)), commandOf(4, plainFrame("E\x07\x09\x01"))),
		} {
			now := logOf(2, 1, append(slices.Clone(old.Entries[:n]), list...)...)
			wantStepsCutAnywhere(t, "others", file, old, now)
			wantStepsCutAnywhere(t, "back", plainLogFile(now), now, old)
			now.Start = 9
			wantStepsCutAnywhere(t, "another Start", file, old, now)
			now.Start, now.StartTerm = 2, 0
			wantStepsCutAnywhere(t, "another StartTerm", file, old, now)
		}
	}
}

func TestDrawnStepsCutAnywhere(t *testing.T) {
	d := &drawing{state: 43}
	for range 150 {
		old := drawnLog(d, 4)
		wantStepsCutAnywhere(t, "drawn", plainLogFile(old), old, drawnOther(d, old))
	}
}

func TestDrawnSteps(t *testing.T) {
	d := &drawing{state: 44}
	kinds := map[int]int{}
	for range 60 {
		old := drawnLog(d, 20)
		file := plainLogFile(old)
		for range 12 {
			now := drawnOther(d, old)
			left, list := wantPlainSteps(t, "drawn", file, old, now)
			kinds[len(list)]++
			if other := drawnOther(d, now); !sameLog(other, old) {
				wantNoSteps(t, "drawn, another file", file, other, now)
			}
			file, old = left, now
		}
	}
	if min(kinds[0], kinds[1], kinds[2]) < 80 {
		t.Errorf("so many of each number of raw writes are drawn: %v", kinds)
	}
}

// A file that is only added to comes to MaxText, and begins anew then.
func TestALongLifeOfALog(t *testing.T) {
	d := &drawing{state: 45}
	old := logOf(7, 1)
	file := plainLogFile(old)
	anew := 0
	for range 400 {
		n := d.below(min(len(old.Entries), 25) + 1)
		now := logOf(7, 1, slices.Clone(old.Entries[:n])...)
		for range 1 + d.below(9) {
			_, term := impl.LogLast(now)
			now.Entries = append(now.Entries, commandOf(min(term+d.below(2), 100000), d.bytes(120)))
		}
		list, ok := impl.LogSteps(file, old, now)
		disk, done := impl.PutRaws(diskOf("log", file), list)
		left, _ := impl.FileAt(disk, "log")
		if !ok || done != len(list) {
			t.Fatalf("LogSteps(%d bytes, %s, %s) = %s, %v", len(file), shortLog(old), shortLog(now), shortRaws(list), ok)
		}
		wantRead(t, "a long life", left, now, len(left))
		if more := plainFrames(recordsFrom(now, firstOther(old, now))...); len(list) == 2 {
			anew++
			if len(file+more) <= 20000 || left != plainLogFile(now) {
				t.Errorf("a file of %d bytes begins anew, with %d bytes to come", len(file), len(more))
			}
		} else if left != file+more {
			t.Errorf("%d bytes are left, not %d", len(left), len(file+more))
		}
		file, old = left, now
	}
	if anew < 3 {
		t.Errorf("the file began anew %d times", anew)
	}
}

func TestLogBehindByHand(t *testing.T) {
	l := ordinaryLog()
	wantBehind(t, "Start", l, 2, 1, l)
	wantBehind(t, "the first", l, 3, 1, logOf(3, 1, commandOf(1, "x"), confOf(3, "\x01\x02"), commandOf(4, "")))
	wantBehind(t, "the second", l, 4, 1, logOf(4, 1, confOf(3, "\x01\x02"), commandOf(4, "")))
	wantBehind(t, "the third", l, 5, 3, logOf(5, 3, commandOf(4, "")))
	wantBehind(t, "the last", l, 6, 4, logOf(6, 4))
	wantBehindNothing(t, "behind the last", l, 7, 4)
	wantBehindNothing(t, "below Start", l, 1, 1)
	wantBehindNothing(t, "Start, another term", l, 2, 2)
	wantBehindNothing(t, "Start, term 0", l, 2, 0)
	wantBehindNothing(t, "the first, another term", l, 3, 3)
	wantBehindNothing(t, "the last, another term", l, 6, 3)
	wantBehind(t, "no entries", logOf(7, 2), 7, 2, logOf(7, 2))
	wantBehindNothing(t, "no entries, another base", logOf(7, 2), 8, 2)
	wantBehindNothing(t, "nothing at all", impl.Log{}, 0, 0)
	wantBehindNothing(t, "nothing at all, another base", impl.Log{}, 5, 3)
}

func TestLogBehindEachBase(t *testing.T) {
	for why, l := range rightLogs() {
		last := l.Start + len(l.Entries)
		for base := l.Start - 9; base < last+9; base++ {
			has := base >= l.Start && base <= last
			own := plainLogTerm(l, base)
			for _, term := range []int{own, own + 1, own - 1, 0, -1, -2, 100000, 100001, math.MinInt, math.MaxInt} {
				if has && term == own {
					wantBehind(t, why, l, base, term, logOf(base, term, l.Entries[base-l.Start:]...))
				} else {
					wantBehindNothing(t, why+", not so", l, base, term)
				}
			}
		}
	}
}

func TestLogBehindFarOff(t *testing.T) {
	const least, most = math.MinInt, math.MaxInt
	for why, l := range rightLogs() {
		for _, base := range []int{least, least + 1, least + l.Start, -1 << 32, -100000, -121, -1, 100001 + 120, 1 << 32, most - 1, most} {
			for _, term := range []int{l.StartTerm, -1, 0, 1, least, most} {
				wantBehindNothing(t, why+", far off", l, base, term)
			}
		}
	}
}

func TestLogBehindOfWrongLogs(t *testing.T) {
	for why, l := range wrongLogs() {
		wantBehindNothing(t, why+", Start", l, l.Start, l.StartTerm)
		for at, e := range l.Entries[:min(9, len(l.Entries))] {
			wantBehindNothing(t, why, l, l.Start+1+at, e.Term)
		}
		last, term := impl.LogLast(l)
		wantBehindNothing(t, why+", the last", l, last, term)
		for _, base := range []int{-1, 0, 3, 100000, 100001} {
			wantBehindNothing(t, why, l, base, -1)
			wantBehindNothing(t, why, l, base, 1)
		}
	}
}

func TestALogBehindHasTheSameEntries(t *testing.T) {
	d := &drawing{state: 46}
	for range 400 {
		l := drawnLog(d, []int{6, 30}[d.below(2)])
		last, lastTerm := impl.LogLast(l)
		for base := l.Start; base <= last; base++ {
			behind := impl.LogBehind(l, base, impl.LogTerm(l, base))
			wantLogOk(t, "behind", behind, true)
			if index, term := impl.LogLast(behind); index != last || term != lastTerm {
				t.Errorf("LogLast(%s) = %d, %d; of the whole log %d, %d", shortLog(behind), index, term, last, lastTerm)
			}
			for index := base - 2; index <= last+2; index++ {
				want := impl.LogTerm(l, index)
				if index < base {
					want = -1
				}
				if got := impl.LogTerm(behind, index); got != want {
					t.Errorf("LogTerm(%s, %d) = %d; want %d", shortLog(behind), index, got, want)
				}
			}
			if !slices.Equal(recordsFrom(behind, 0), recordsFrom(l, base-l.Start)) {
				t.Errorf("%s behind %d has other entries: %s", shortLog(l), base, shortLog(behind))
			}
			then := base + d.below(last-base+1)
			wantBehind(t, "behind twice", behind, then, impl.LogTerm(l, then), plainLogBehind(l, then, plainLogTerm(l, then)))
		}
	}
}

func TestDrawnLogsBehind(t *testing.T) {
	d := &drawing{state: 47}
	some := 0
	for range 20000 {
		l := drawnLog(d, 6)
		if d.below(9) == 0 {
			l.Entries = append(l.Entries, drawnEntry(d))
		}
		base := l.Start + d.below(len(l.Entries)+3) - 1
		term := []int{plainLogTerm(l, base), l.StartTerm, d.below(3) - 1}[d.below(3)]
		want := plainLogBehind(l, base, term)
		wantBehind(t, "drawn", l, base, term, want)
		if len(want.Entries) > 0 {
			some++
		}
	}
	if some < 2000 || some > 18000 {
		t.Errorf("%d of the drawn ones have entries", some)
	}
}

// logWithRoom has entries in the room behind its list.
func logWithRoom(l impl.Log) impl.Log {
	room := append(make([]impl.Entry, 0, len(l.Entries)+9), l.Entries...)
	l.Entries = append(room, noneOf(77), commandOf(78, "spare"))[:len(l.Entries)]
	return l
}

func roomOfLog(l impl.Log) string { return fmt.Sprint(l, l.Entries[:cap(l.Entries)]) }

func overwriteEntries(list []impl.Entry) {
	for i := range list[:cap(list)] {
		list[:cap(list)][i] = impl.Entry{Term: -7, Kind: -7, Data: "turned"}
	}
}

func TestArgumentsOfLogsStay(t *testing.T) {
	all := rightLogs()
	for why, l := range wrongLogs() {
		all["not right: "+why] = l
	}
	for why, own := range all {
		l := logWithRoom(own)
		for _, of := range []impl.Log{ordinaryLog(), {}, logOf(3, 0, noneOf(0), noneOf(9)), own} {
			other := logWithRoom(of)
			was, wasOther := roomOfLog(l), roomOfLog(other)
			impl.LogOk(l)
			last, term := impl.LogLast(l)
			impl.LogTerm(l, last)
			file, _ := impl.LogFile(l)
			otherFile, _ := impl.LogFile(other)
			impl.LogSteps(file, l, other)
			impl.LogSteps(otherFile, other, l)
			impl.LogSteps(otherFile, l, other)
			for _, base := range []int{l.Start, l.Start + 1, last} {
				behind := impl.LogBehind(l, base, impl.LogTerm(l, base))
				behind.Entries = append(behind.Entries, noneOf(99))
				overwriteEntries(behind.Entries)
			}
			impl.LogBehind(l, last, term+1)
			if roomOfLog(l) != was || roomOfLog(other) != wasOther {
				t.Errorf("%s: an argument is another now: %.300s, was %.300s", why, roomOfLog(l), was)
			}
		}
	}
}

func dataOf(l impl.Log) []string {
	var texts []string
	for _, e := range l.Entries {
		texts = append(texts, e.Data)
	}
	return texts
}

// newLog has new memory for each Data, which are told too.
func newLog(l impl.Log) (impl.Log, []string) {
	l = cutLog(l, len(l.Entries))
	for at := range l.Entries {
		l.Entries[at].Data = strings.Clone(l.Entries[at].Data)
	}
	return l, dataOf(l)
}

func TestAnswersOfLogsAreNewMemory(t *testing.T) {
	all := map[string]impl.Log{}
	for why, l := range rightLogs() {
		all[why] = l
	}
	d := &drawing{state: 48}
	for n := range 30 {
		all[fmt.Sprint("drawn ", n)] = drawnLog(d, 9)
	}
	for why, own := range all {
		l, words := newLog(own)
		file, _ := impl.LogFile(l)
		wantOwn(t, why+": LogFile", []string{file}, words)
		read, _, _ := impl.ReadLog(file)
		wantOwn(t, why+": ReadLog", dataOf(read), []string{file})
		for base := l.Start; base <= l.Start+len(l.Entries); base++ {
			behind := impl.LogBehind(l, base, impl.LogTerm(l, base))
			wantOwn(t, why+": LogBehind", dataOf(behind), words)
		}
		for _, of := range []impl.Log{drawnOnward(d, l, len(l.Entries), 3), drawnOnward(d, l, 0, 5), {}} {
			now, more := newLog(of)
			list, _ := impl.LogSteps(file, l, now)
			wantOwn(t, why+": LogSteps", rawTexts(list), append(append(more, words...), file))
			wantOwn(t, why+": LogSteps", more, rawTexts(list))
		}
	}
}

func TestListsOfLogsAreNewMemory(t *testing.T) {
	for why, l := range rightLogs() {
		file := plainLogFile(l)
		first, _, _ := impl.ReadLog(file)
		second, _, _ := impl.ReadLog(file)
		overwriteEntries(first.Entries)
		if !sameLog(second, l) {
			t.Errorf("%s: two answers of ReadLog share memory", why)
		}
		first = impl.LogBehind(second, l.Start, l.StartTerm)
		again := impl.LogBehind(second, l.Start, l.StartTerm)
		overwriteEntries(first.Entries)
		if !sameLog(second, l) || !sameLog(again, l) {
			t.Errorf("%s: LogBehind answers memory of its argument, or of another answer", why)
		}
		now := logOf(7, 100000)
		list, _ := impl.LogSteps(file, second, now)
		overwriteRaws(list)
		wantPlainSteps(t, why+", once more", file, second, now)
	}
}

// Empty lists and nil are the same value.
func TestEmptyListsOfLogs(t *testing.T) {
	file := plainLogFile(logOf(7, 2))
	for _, none := range [][]impl.Entry{nil, {}, entries(noneOf(9))[:0]} {
		l := impl.Log{Start: 7, StartTerm: 2, Entries: none}
		wantLogOk(t, "an empty list", l, true)
		wantLogFile(t, "an empty list", l)
		wantBehindNothing(t, "an empty list", l, 7, 2)
		if index, term := impl.LogLast(l); index != 7 || term != 2 || impl.LogTerm(l, 7) != 2 || impl.LogTerm(l, 8) != -1 {
			t.Errorf("LogLast(%v) = %d, %d", l, index, term)
		}
		for _, other := range [][]impl.Entry{nil, {}, entries(noneOf(8))[:0]} {
			now := impl.Log{Start: 7, StartTerm: 2, Entries: other}
			wantSteps(t, "an empty list", file, l, now)
			now.StartTerm = 1
			wantSteps(t, "an empty list", file, l, now, put("log+", plainLogFile(now)), move("log+", "log"))
		}
	}
}

func TestManyLogsAtOnce(t *testing.T) {
	var all sync.WaitGroup
	old := ordinaryLog()
	file := plainLogFile(old)
	now := logOf(2, 1, noneOf(1), noneOf(7))
	for range 8 {
		all.Add(1)
		go func() {
			defer all.Done()
			for range 50 {
				wantLogFile(t, "at once", old)
				wantRead(t, "at once", file, old, len(file))
				wantPlainSteps(t, "at once", file, old, now)
				wantPlainSteps(t, "at once", file, old, impl.Log{})
				wantBehind(t, "at once", old, 5, 3, logOf(5, 3, commandOf(4, "")))
			}
		}()
	}
	all.Wait()
}
