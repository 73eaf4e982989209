package tests

import (
	"fmt"
	"math"
	"slices"
	"strings"
	"sync"
	"testing"

	"loop.example/g00103/impl"
)

func entryOf(term, kind int, data string) impl.Entry {
	return impl.Entry{Term: term, Kind: kind, Data: data}
}

func noneOf(term int) impl.Entry { return entryOf(term, impl.EntryNone, "") }

func confOf(term int, data string) impl.Entry { return entryOf(term, impl.EntryConf, data) }

func commandOf(term int, data string) impl.Entry { return entryOf(term, impl.EntryCommand, data) }

// shortEntry tells an entry without the whole of its long Data.
func shortEntry(e impl.Entry) string {
	return fmt.Sprintf("{%d %d %.60q of %d bytes}", e.Term, e.Kind, e.Data, len(e.Data))
}

// rightConfs are all of them, by their texts, written out.
func rightConfs() map[string][]int {
	return map[string][]int{
		"\x01":             {1},
		"\x02":             {2},
		"\x03":             {3},
		"\x04":             {4},
		"\x01\x02":         {1, 2},
		"\x01\x03":         {1, 3},
		"\x01\x04":         {1, 4},
		"\x02\x03":         {2, 3},
		"\x02\x04":         {2, 4},
		"\x03\x04":         {3, 4},
		"\x01\x02\x03":     {1, 2, 3},
		"\x01\x02\x04":     {1, 2, 4},
		"\x01\x03\x04":     {1, 3, 4},
		"\x02\x03\x04":     {2, 3, 4},
		"\x01\x02\x03\x04": {1, 2, 3, 4},
	}
}

// plainConfText looks for the text among those of all right confs.
func plainConfText(conf []int) (string, bool) {
	for text, right := range rightConfs() {
		if slices.Equal(conf, right) {
			return text, true
		}
	}
	return "", false
}

func plainReadConf(text string) ([]int, bool) {
	conf, right := rightConfs()[text]
	return conf, right
}

func wantConfText(t *testing.T, why string, conf []int) {
	t.Helper()
	want, ok := plainConfText(conf)
	got, right := impl.ConfText(conf)
	if got != want || right != ok {
		t.Errorf("%s: ConfText(%v) = %q, %v; want %q, %v", why, conf, got, right, want, ok)
	}
}

func wantConf(t *testing.T, why string, text string) {
	t.Helper()
	want, ok := plainReadConf(text)
	got, right := impl.ReadConf(text)
	if !slices.Equal(got, want) || right != ok {
		t.Errorf("%s: ReadConf(%.60q of %d bytes) = %v, %v; want %v, %v", why, text, len(text), got, right, want, ok)
	}
}

func wantNoConf(t *testing.T, why string, text string) {
	t.Helper()
	if got, ok := impl.ReadConf(text); ok || len(got) != 0 {
		t.Errorf("%s: ReadConf(%.60q of %d bytes) = %v, %v; want nothing, false", why, text, len(text), got, ok)
	}
}

// plainEntryOk is the document's rule, word by word.
func plainEntryOk(e impl.Entry) bool {
	if e.Term < 0 || e.Term > 100000 {
		return false
	}
	_, conf := plainReadConf(e.Data)
	return e.Kind == 1 && len(e.Data) == 0 || e.Kind == 2 && conf || e.Kind == 3 && len(e.Data) < 121
}

func plainPlaceOk(index int) bool { return 0 < index && index < 100001 }

// plainEntryText is the rule of EntryText, also of entries that are not right.
func plainEntryText(index int, e impl.Entry) string {
	return "E" + plainLength(index) + plainLength(e.Term) + string([]byte{byte(e.Kind)}) + e.Data
}

// entryHasText tells whether the numbers are such as can be written.
func entryHasText(index int, e impl.Entry) bool {
	return min(index, e.Term, e.Kind) >= 0 && e.Kind < 256
}

// plainReadEntry guesses an entry, and looks whether the text is that one's.
func plainReadEntry(text string) (int, impl.Entry, bool) {
	r := looseReader{rest: text}
	r.some(1)
	index := r.number()
	e := impl.Entry{Term: r.number()}
	for _, b := range []byte(r.some(1)) {
		e.Kind = int(b)
	}
	e.Data = r.rest
	if !plainPlaceOk(index) || !plainEntryOk(e) || plainEntryText(index, e) != text {
		return 0, impl.Entry{}, false
	}
	return index, e, true
}

func wantEntryOk(t *testing.T, why string, e impl.Entry) {
	t.Helper()
	if got := impl.EntryOk(e); got != plainEntryOk(e) {
		t.Errorf("%s: EntryOk(%s) = %v", why, shortEntry(e), got)
	}
}

func wantEntryText(t *testing.T, why string, index int, e impl.Entry) {
	t.Helper()
	want := ""
	ok := plainPlaceOk(index) && plainEntryOk(e)
	if ok {
		want = plainEntryText(index, e)
	}
	if got, right := impl.EntryText(index, e); got != want || right != ok {
		t.Errorf("%s: EntryText(%d, %s) = %.60q, %v; want %.60q, %v", why, index, shortEntry(e), got, right, want, ok)
	}
}

func wantEntry(t *testing.T, why string, text string) bool {
	t.Helper()
	index, e, ok := plainReadEntry(text)
	at, got, right := impl.ReadEntry(text)
	if at != index || got != e || right != ok {
		t.Errorf("%s: ReadEntry(%.60q of %d bytes) = %d, %s, %v; want %d, %s, %v", why, text, len(text), at, shortEntry(got), right, index, shortEntry(e), ok)
	}
	return right
}

func wantNoEntry(t *testing.T, why string, text string) {
	t.Helper()
	if at, got, ok := impl.ReadEntry(text); ok || at != 0 || got != (impl.Entry{}) {
		t.Errorf("%s: ReadEntry(%.60q of %d bytes) = %d, %s, %v; want 0, nothing, false", why, text, len(text), at, shortEntry(got), ok)
	}
}

func entryComesBack(t *testing.T, why string, index int, e impl.Entry) {
	t.Helper()
	text, ok := impl.EntryText(index, e)
	if !impl.EntryOk(e) || !ok || text != plainEntryText(index, e) {
		t.Errorf("%s: EntryText(%d, %s) = %.60q, %v", why, index, shortEntry(e), text, ok)
	}
	if at, again, ok := impl.ReadEntry(text); !ok || at != index || again != e {
		t.Errorf("%s: ReadEntry(%.60q) = %d, %s, %v; want %d, %s", why, text, at, shortEntry(again), ok, index, shortEntry(e))
	}
}

func rightEntries() map[string]impl.Entry {
	all := map[string]impl.Entry{
		"nothing":                             noneOf(1),
		"nothing, Term 0":                     noneOf(0),
		"nothing, Term 127":                   noneOf(127),
		"nothing, Term 128":                   noneOf(128),
		"nothing, Term MaxTerm - 1":           noneOf(99999),
		"nothing, Term MaxTerm":               noneOf(100000),
		"a conf, Term 0":                      confOf(0, "\x01\x02\x03"),
		"a conf, Term MaxTerm":                confOf(100000, "\x01\x02\x03\x04"),
		"a command":                           commandOf(2, "x"),
		"a command, Term 0":                   commandOf(0, "x"),
		"a command, Term MaxTerm":             commandOf(100000, "x"),
		"a command without Data":              commandOf(2, ""),
		"a command of a byte 0":               commandOf(2, "\x00"),
		"a command of a byte 255":             commandOf(2, "\xff"),
		"a command of a conf's text":          commandOf(2, "\x01\x02"),
		"a command of an entry's text":        commandOf(2, "E\x03\x02\x03x"),
		"a command of no conf's text":         commandOf(2, "\x02\x01"),
		"a command of MaxData - 1 bytes":      commandOf(2, letters(119)),
		"a command of MaxData bytes":          commandOf(2, letters(120)),
		"a command of MaxData noughts":        commandOf(2, strings.Repeat("\x00", 120)),
		"a command of MaxData bytes 255":      commandOf(2, strings.Repeat("\xff", 120)),
		"a command of MaxData bytes, MaxTerm": commandOf(100000, letters(120)),
	}
	for text := range rightConfs() {
		all[fmt.Sprintf("a conf %q", text)] = confOf(3, text)
	}
	return all
}

func wrongEntries() map[string]impl.Entry {
	const least, most = math.MinInt, math.MaxInt
	return map[string]impl.Entry{
		"zero":                                   {},
		"Term -1":                                noneOf(-1),
		"Term MaxTerm + 1":                       noneOf(100001),
		"Term far too great":                     noneOf(1000000000),
		"Term beyond MaxNumber":                  noneOf(1000000001),
		"Term the least int":                     noneOf(least),
		"Term the greatest int":                  noneOf(most),
		"a conf, Term -1":                        confOf(-1, "\x01"),
		"a conf, Term MaxTerm + 1":               confOf(100001, "\x01"),
		"a command, Term -1":                     commandOf(-1, "x"),
		"a command, Term MaxTerm + 1":            commandOf(100001, "x"),
		"Kind 0":                                 entryOf(2, 0, ""),
		"Kind 0 with Data":                       entryOf(2, 0, "x"),
		"Kind 0 with a conf":                     entryOf(2, 0, "\x01\x02"),
		"Kind 4":                                 entryOf(2, 4, ""),
		"Kind 4 with Data":                       entryOf(2, 4, "x"),
		"Kind 4 with a conf":                     entryOf(2, 4, "\x01\x02"),
		"Kind -1":                                entryOf(2, -1, ""),
		"Kind 5":                                 entryOf(2, 5, ""),
		"Kind 255":                               entryOf(2, 255, ""),
		"Kind 256":                               entryOf(2, 256, ""),
		"Kind 129":                               entryOf(2, 129, ""),
		"Kind 257, of the byte of EntryNone":     entryOf(2, 257, ""),
		"Kind 258, of the byte of EntryConf":     entryOf(2, 258, "\x01\x02"),
		"Kind 259, of the byte of EntryCommand":  entryOf(2, 259, "x"),
		"Kind -255, of the byte of EntryNone":    entryOf(2, -255, ""),
		"Kind -254, of the byte of EntryConf":    entryOf(2, -254, "\x01\x02"),
		"Kind -253, of the byte of EntryCommand": entryOf(2, -253, "x"),
		"Kind 1 and 32 bits":                     entryOf(2, 1<<32+1, ""),
		"Kind the least int":                     entryOf(2, least, ""),
		"Kind the greatest int":                  entryOf(2, most, ""),
		"nothing with Data":                      entryOf(2, 1, "x"),
		"nothing with a byte 0":                  entryOf(2, 1, "\x00"),
		"nothing with a conf":                    entryOf(2, 1, "\x01\x02"),
		"nothing with MaxData bytes":             entryOf(2, 1, letters(120)),
		"nothing with much Data":                 entryOf(2, 1, letters(20001)),
		"a conf of the empty text":               confOf(2, ""),
		"a conf of a node 0":                     confOf(2, "\x00"),
		"a conf from 0 on":                       confOf(2, "\x00\x01"),
		"a conf of MaxNodes + 1":                 confOf(2, "\x05"),
		"a conf up to MaxNodes + 1":              confOf(2, "\x01\x05"),
		"a conf of a node 255":                   confOf(2, "\x01\xff"),
		"a conf of 129":                          confOf(2, "\x81"),
		"a conf of figures":                      confOf(2, "12"),
		"a conf that falls":                      confOf(2, "\x02\x01"),
		"a conf that falls at last":              confOf(2, "\x01\x03\x02"),
		"a conf of two alike":                    confOf(2, "\x02\x02"),
		"a conf of two alike behind":             confOf(2, "\x01\x02\x02"),
		"a conf of a number too many":            confOf(2, "\x01\x02\x03\x04\x05"),
		"a conf from 0 on, up to MaxNodes":       confOf(2, "\x00\x01\x02\x03\x04"),
		"a conf of five, two alike":              confOf(2, "\x01\x02\x03\x04\x04"),
		"a conf with its length ahead":           confOf(2, "\x03\x01\x02\x03"),
		"a conf of words":                        confOf(2, "no conf"),
		"a conf of MaxData bytes":                confOf(2, strings.Repeat("\x01", 120)),
		"a conf of many bytes":                   confOf(2, strings.Repeat("\x01", 20001)),
		"a command of MaxData + 1 bytes":         commandOf(2, letters(121)),
		"a command of MaxData + 1 noughts":       commandOf(2, strings.Repeat("\x00", 121)),
		"a command of MaxData + 2 bytes":         commandOf(2, letters(122)),
		"a command of 256 bytes":                 commandOf(2, letters(256)),
		"a command of MaxText bytes":             commandOf(2, letters(20000)),
		"a command of far too many bytes":        commandOf(2, letters(100000)),
	}
}

func TestEntryLimits(t *testing.T) {
	if impl.MaxData != 120 || impl.EntryNone != 1 || impl.EntryConf != 2 || impl.EntryCommand != 3 {
		t.Error("a constant of entries is not the document's")
	}
}

func TestRightConfsComeBack(t *testing.T) {
	if len(rightConfs()) != 15 {
		t.Fatalf("%d confs are right", len(rightConfs()))
	}
	for want, conf := range rightConfs() {
		text, ok := impl.ConfText(conf)
		if !ok || text != want {
			t.Errorf("ConfText(%v) = %q, %v; want %q", conf, text, ok, want)
		}
		if again, ok := impl.ReadConf(text); !ok || !slices.Equal(again, conf) {
			t.Errorf("ReadConf(%q) = %v, %v; want %v", text, again, ok, conf)
		}
	}
}

func TestConfsOfAllShortLists(t *testing.T) {
	lists := listsOf(6, 0, 1, 2, 3, 4, 5)
	// These come to the bytes 1 to 4, or to none.
	lists = append(lists, listsOf(3, 1, 2, 4, 257, 258, 260, -255, -254, -252, 256, -1, 1<<32+2, math.MinInt, math.MinInt+1, math.MaxInt)...)
	right := 0
	for _, conf := range lists {
		wantConfText(t, "a short list", conf)
		if _, ok := impl.ConfText(conf); ok {
			right++
		}
		if _, ok := impl.ConfText(conf); ok != impl.ConfOk(conf) {
			t.Errorf("ConfText(%v) tells %v", conf, ok)
		}
	}
	if right != 15+7 {
		t.Errorf("%d of the short lists are right", right)
	}
}

func TestConfsThatAreNotRight(t *testing.T) {
	for why, conf := range map[string][]int{
		"nil":                       nil,
		"empty":                     {},
		"0":                         {0},
		"from 0 on":                 {0, 1, 2},
		"MaxNodes + 1":              {5},
		"up to MaxNodes + 1":        {1, 2, 5},
		"two alike":                 {2, 2},
		"falling":                   {2, 1},
		"a number too many":         {1, 2, 3, 4, 5},
		"a number too many, 4 last": {0, 1, 2, 3, 4},
		"257 for 1":                 {257},
		"257 and 2":                 {257, 2},
		"1 and 258":                 {1, 258},
		"-255 for 1":                {-255},
		"-255 and 2":                {-255, 2},
		"1 and -254":                {1, -254},
		"-1":                        {-1},
		"256":                       {256},
		"a thousand":                upTo(1, 1000),
		"a thousand alike":          slices.Repeat([]int{1}, 1000),
	} {
		if text, ok := impl.ConfText(conf); ok || text != "" {
			t.Errorf("%s: ConfText = %.60q, %v", why, text, ok)
		}
	}
}

func TestConfsOfEveryShortText(t *testing.T) {
	wantNoConf(t, "the empty text", "")
	right := 0
	for a := range 256 {
		one := string([]byte{byte(a)})
		wantConf(t, "one byte", one)
		if _, ok := impl.ReadConf(one); ok {
			right++
		}
		for b := range 256 {
			two := one + string([]byte{byte(b)})
			wantConf(t, "two bytes", two)
			if _, ok := impl.ReadConf(two); ok {
				right++
			}
		}
	}
	if right != 4+6 {
		t.Errorf("%d of the texts of one and two bytes are confs", right)
	}
	for _, list := range listsOf(6, 0, 1, 2, 3, 4, 5) {
		text := ""
		for _, n := range list {
			text += string([]byte{byte(n)})
		}
		wantConf(t, "a short text", text)
	}
}

func TestConfTextsSpoiled(t *testing.T) {
	for text := range rightConfs() {
		for at := range len(text) {
			wantConf(t, "cut off", text[:at])
			wantConf(t, "without its beginning", text[at+1:])
			wantConf(t, "without one byte", text[:at]+text[at+1:])
			for by := 1; by < 256; by++ {
				wantConf(t, "a byte turned", turned(text, at, by))
			}
		}
		for b := range 256 {
			more := string([]byte{byte(b)})
			wantConf(t, "a byte behind", text+more)
			wantConf(t, "a byte ahead", more+text)
		}
		wantNoConf(t, "twice", text+text)
		wantNoConf(t, "sealed", plainSealed(text))
		wantNoConf(t, "a frame", plainFrame(text))
		wantNoConf(t, "much behind", text+letters(20000))
		wantNoConf(t, "many noughts behind", text+strings.Repeat("\x00", 100000))
		wantConf(t, "its length ahead", plainShort(text))
	}
}

func TestLongTextsOfNoConf(t *testing.T) {
	for _, size := range []int{5, 6, 100, 256, 257, 260, 20000, 20001, 100000, 1 << 20} {
		for _, b := range []byte{0, 1, 2, 4, 5, '1', 128, 255} {
			wantNoConf(t, "one byte repeated", strings.Repeat(string([]byte{b}), size))
		}
	}
	var all []byte
	for b := range 256 {
		all = append(all, byte(b))
	}
	for first := range 255 {
		for behind := first + 1; behind <= 256; behind++ {
			wantConf(t, "bytes in order", string(all[first:behind]))
		}
	}
}

func TestEntryOk(t *testing.T) {
	for why, e := range rightEntries() {
		if !plainEntryOk(e) || !impl.EntryOk(e) {
			t.Errorf("%s: EntryOk(%s) is false", why, shortEntry(e))
		}
	}
	for why, e := range wrongEntries() {
		if plainEntryOk(e) || impl.EntryOk(e) {
			t.Errorf("%s: EntryOk(%s) is true", why, shortEntry(e))
		}
	}
}

func TestEntryOkOfEachKindTermAndData(t *testing.T) {
	kinds := []int{-256, -255, -254, -253, -1, 0, 1, 2, 3, 4, 5, 127, 128, 129, 255, 256, 257, 258, 259, math.MinInt, math.MaxInt}
	terms := []int{math.MinInt, -1, 0, 1, 127, 128, 99999, 100000, 100001, 1 << 32, math.MaxInt}
	data := []string{"", "x", "\x00", "\x01", "\x05", "\x01\x02\x03\x04", "\x01\x02\x03\x04\x05", "\x02\x01", "\x03\x03", letters(119), letters(120), letters(121), letters(376)}
	for _, kind := range kinds {
		for _, term := range terms {
			for _, text := range data {
				e := entryOf(term, kind, text)
				wantEntryOk(t, "all of them", e)
				for _, index := range []int{0, 1, 100000, 100001} {
					wantEntryText(t, "all of them", index, e)
					if entryHasText(index, e) {
						wantEntry(t, "all of them", plainEntryText(index, e))
					}
				}
			}
		}
	}
}

func TestEntryOkOfEveryKind(t *testing.T) {
	for kind := -600; kind < 600; kind++ {
		for _, data := range []string{"", "\x01\x03", "x"} {
			wantEntryOk(t, "a Kind", entryOf(2, kind, data))
			wantEntryText(t, "a Kind", 3, entryOf(2, kind, data))
		}
	}
}

func TestEntryOkOfEachLength(t *testing.T) {
	for size := range 400 {
		for kind := range 5 {
			for _, b := range []string{"\x00", "\x01", "x", "\xff"} {
				e := entryOf(2, kind, strings.Repeat(b, size))
				wantEntryOk(t, "a length", e)
				wantEntryText(t, "a length", 3, e)
				wantEntry(t, "a length", plainEntryText(3, e))
			}
		}
	}
}

func TestEntriesByteByByte(t *testing.T) {
	for _, c := range []struct {
		index int
		e     impl.Entry
		text  string
	}{
		{1, noneOf(0), "E\x01\x00\x01"},
		{1, noneOf(1), "E\x01\x01\x01"},
		{3, commandOf(2, "x"), "E\x03\x02\x03x"},
		{3, commandOf(2, ""), "E\x03\x02\x03"},
		{5, confOf(4, "\x01\x02\x03"), "E\x05\x04\x02\x01\x02\x03"},
		{127, confOf(127, "\x04"), "E\x7f\x7f\x02\x04"},
		{128, noneOf(128), "E\x80\x01\x80\x01\x01"},
		{300, commandOf(16384, "\x00E\xff"), "E\xac\x02\x80\x80\x01\x03\x00E\xff"},
		{100000, noneOf(100000), "E\xa0\x8d\x06\xa0\x8d\x06\x01"},
		{100000, confOf(100000, "\x01\x02\x03\x04"), "E\xa0\x8d\x06\xa0\x8d\x06\x02\x01\x02\x03\x04"},
		{99999, commandOf(99999, letters(120)), "E\x9f\x8d\x06\x9f\x8d\x06\x03" + letters(120)},
	} {
		if text, ok := impl.EntryText(c.index, c.e); !ok || text != c.text {
			t.Errorf("EntryText(%d, %s) = %q, %v; want %q", c.index, shortEntry(c.e), text, ok, c.text)
		}
		if index, e, ok := impl.ReadEntry(c.text); !ok || index != c.index || e != c.e {
			t.Errorf("ReadEntry(%q) = %d, %s, %v; want %d, %s", c.text, index, shortEntry(e), ok, c.index, shortEntry(c.e))
		}
	}
}

func TestRightEntriesComeBack(t *testing.T) {
	for why, e := range rightEntries() {
		for _, index := range []int{1, 2, 126, 127, 128, 129, 255, 256, 16383, 16384, 99999, 100000} {
			entryComesBack(t, why, index, e)
		}
	}
}

func TestEntryTextOfEachIndex(t *testing.T) {
	for why, e := range rightEntries() {
		for _, index := range []int{0, -1, -127, -128, -255, -256, 100001, 100002, 1000000000, 1000000001, 1 << 32, 1<<32 + 1, math.MinInt, math.MinInt + 1, math.MaxInt} {
			if text, ok := impl.EntryText(index, e); ok || text != "" {
				t.Errorf("%s: EntryText(%d, %s) = %.60q, %v", why, index, shortEntry(e), text, ok)
			}
		}
	}
	for index := -300; index < 100300; index++ {
		wantEntryText(t, "an index", index, commandOf(2, "x"))
	}
	for term := -300; term < 100300; term++ {
		wantEntryText(t, "a Term", 3, noneOf(term))
	}
}

func TestEntryTextOfWrongEntries(t *testing.T) {
	for why, e := range wrongEntries() {
		for _, index := range []int{math.MinInt, -1, 0, 1, 3, 100000, 100001, math.MaxInt} {
			if text, ok := impl.EntryText(index, e); ok || text != "" {
				t.Errorf("%s: EntryText(%d, %s) = %.60q, %v", why, index, shortEntry(e), text, ok)
			}
		}
	}
}

func TestTextsOfWrongEntries(t *testing.T) {
	for why, e := range wrongEntries() {
		for _, index := range []int{1, 3, 100000} {
			if entryHasText(index, e) {
				wantNoEntry(t, why, plainEntryText(index, e))
			}
		}
	}
	for why, e := range rightEntries() {
		for _, index := range []int{0, 100001, 100002, 1000000000, 1000000001} {
			wantNoEntry(t, why+", another index", plainEntryText(index, e))
		}
	}
}

func TestEntryTextsCutOff(t *testing.T) {
	for why, e := range rightEntries() {
		text := plainEntryText(300, e)
		ahead := len(text) - len(e.Data)
		for at := range len(text) {
			wantEntry(t, why+", cut off", text[:at])
			if at < ahead {
				wantNoEntry(t, why+", cut off ahead of its Data", text[:at])
			}
			wantEntry(t, why+", without its beginning", text[at+1:])
			wantEntry(t, why+", without one byte", text[:at]+text[at+1:])
		}
	}
	wantNoEntry(t, "the empty text", "")
}

func TestEntryTextsWithAByteTurned(t *testing.T) {
	right := 0
	for why, e := range rightEntries() {
		for _, index := range []int{1, 300, 100000} {
			text := plainEntryText(index, e)
			for at := range len(text) {
				for by := 1; by < 256; by++ {
					if wantEntry(t, why+", a byte turned", turned(text, at, by)) {
						right++
					}
					if at == 0 {
						wantNoEntry(t, why+", another first byte", turned(text, at, by))
					}
				}
			}
		}
	}
	if right < 1000 {
		t.Errorf("%d of the texts with a byte turned are entries", right)
	}
}

func TestBytesBehindAnEntry(t *testing.T) {
	for why, e := range rightEntries() {
		text := plainEntryText(3, e)
		for more := range 256 {
			b := string([]byte{byte(more)})
			wantEntry(t, why+", a byte behind", text+b)
			wantEntry(t, why+", a byte ahead", b+text)
			if e.Kind == impl.EntryNone || len(e.Data) == 120 {
				wantNoEntry(t, why+", a byte behind", text+b)
			}
		}
		for _, size := range []int{2, 4, 119, 120, 121, 122, 20000, 100000} {
			wantEntry(t, why+", much behind", text+letters(size))
			wantEntry(t, why+", many noughts behind", text+strings.Repeat("\x00", size))
		}
		wantEntry(t, why+", twice", text+text)
	}
}

func TestEntryNumbersInALongerForm(t *testing.T) {
	for why, e := range rightEntries() {
		for _, index := range []int{1, 127, 128, 16384, 100000} {
			text := plainEntryText(index, e)
			behindIndex := len(plainLength(index))
			behindTerm := behindIndex + len(plainLength(e.Term))
			wantNoEntry(t, why+", a longer form of the index", longer(text, behindIndex))
			wantNoEntry(t, why+", a longer form of Term", longer(text, behindTerm))
			wantNoEntry(t, why+", a longer form of both", longer(longer(text, behindTerm), behindIndex))
			far := text[:behindIndex] + string([]byte{text[behindIndex] + 128}) + "\x80\x80\x00" + text[behindIndex+1:]
			wantNoEntry(t, why+", a far longer form of the index", far)
			far = text[:behindTerm] + string([]byte{text[behindTerm] + 128}) + "\x80\x80\x00" + text[behindTerm+1:]
			wantNoEntry(t, why+", a far longer form of Term", far)
			for _, at := range []int{1, behindIndex + 1} {
				wantNoEntry(t, why+", a number without an end", text[:at]+strings.Repeat("\x80", 50))
				wantNoEntry(t, why+", a number without an end, of 255", text[:at]+strings.Repeat("\xff", 50))
			}
			// Kind is one byte, which has no longer form.
			wantEntry(t, why+", a longer form of Kind", longer(text, behindTerm+1))
			wantNoEntry(t, why+", another Kind", turned(text, behindTerm+1, 128))
		}
	}
}

func TestTextsOfNoEntry(t *testing.T) {
	text := plainEntryText(3, commandOf(2, "x"))
	wantNoEntry(t, "E alone", "E")
	wantNoEntry(t, "a little e", "e"+text[1:])
	wantNoEntry(t, "an S", "S"+text[1:])
	wantNoEntry(t, "without E", text[1:])
	wantNoEntry(t, "E twice", "E"+text)
	wantNoEntry(t, "a frame", plainFrame(text))
	wantNoEntry(t, "words", "no entry at all")
	wantNoEntry(t, "figures", "E 3 2 3 x")
	wantNoEntry(t, "index 0", "E\x00\x02\x01")
	wantNoEntry(t, "a conf that is none", "E\x03\x02\x02")
	wantNoEntry(t, "a conf of its text's length ahead", "E\x03\x02\x02\x02\x01\x02")
	for _, size := range []int{1, 2, 4, 5, 100, 20000, 20001, 100000} {
		for b := range 256 {
			if size < 20000 || b%51 == 0 {
				wantNoEntry(t, "one byte repeated", strings.Repeat(string([]byte{byte(b)}), size))
				wantEntry(t, "one byte repeated behind E", "E"+strings.Repeat(string([]byte{byte(b)}), size))
			}
		}
	}
}

func TestEntriesOfEveryShortText(t *testing.T) {
	right := 0
	texts := []string{"", "E"}
	for range 6 {
		var more []string
		for _, text := range texts {
			for _, b := range []byte{0, 1, 2, 3, 4, 'E', 128, 255} {
				if len(text) > 0 && text[0] == 'E' || len(text) < 3 {
					more = append(more, text+string([]byte{b}))
				}
			}
		}
		for _, text := range more {
			if wantEntry(t, "a short text", text) {
				right++
			}
		}
		texts = more
	}
	if right < 1000 {
		t.Errorf("%d of the short texts are entries", right)
	}
}

func drawnEntry(d *drawing) impl.Entry {
	term := d.below([]int{3, 300, 100001}[d.below(3)])
	switch d.below(3) {
	case 0:
		return noneOf(term)
	case 1:
		text, _ := plainConfText(drawnSet(d, 4, 1, 5))
		return confOf(term, text)
	}
	return commandOf(term, d.bytes([]int{3, 120}[d.below(2)]))
}

func drawnIndex(d *drawing) int { return 1 + d.below([]int{3, 300, 100000}[d.below(3)]) }

func TestDrawnEntries(t *testing.T) {
	d := &drawing{state: 30}
	kinds := make([]int, 4)
	for range 20000 {
		e := drawnEntry(d)
		kinds[e.Kind]++
		entryComesBack(t, "a drawn one", drawnIndex(d), e)
	}
	if min(kinds[1], kinds[2], kinds[3]) < 5000 {
		t.Errorf("so many of each Kind are drawn: %v", kinds)
	}
}

func TestDrawnEntriesSpoiled(t *testing.T) {
	d := &drawing{state: 31}
	right := 0
	for range 20000 {
		index, e := drawnIndex(d), drawnEntry(d)
		odd := []int{-1, 0, 1, 2, 3, 4, 128, 256, 100000, 100001}[d.below(10)]
		switch d.below(5) {
		case 0:
			index = odd
		case 1:
			e.Term = odd
		case 2:
			e.Kind = odd
		case 3:
			e.Data += d.bytes(2)
		case 4:
			e.Data = d.bytes(130)
		}
		wantEntryOk(t, "spoiled", e)
		wantEntryText(t, "spoiled", index, e)
		if entryHasText(index, e) && wantEntry(t, "spoiled", plainEntryText(index, e)) {
			right++
		}
	}
	if right < 2000 || right > 18000 {
		t.Errorf("%d of the spoiled ones are right", right)
	}
}

func TestDrawnEntryTexts(t *testing.T) {
	d := &drawing{state: 32}
	right := 0
	for range 20000 {
		text := plainEntryText(drawnIndex(d), drawnEntry(d))
		at := d.below(len(text))
		switch d.below(4) {
		case 0:
			text = turned(text, at, d.below(256))
		case 1:
			text = text[:at] + text[min(at+1+d.below(3), len(text)):]
		case 2:
			text = text[:at] + d.bytes(3) + text[at:]
		case 3:
			text = text[:at+1]
		}
		if wantEntry(t, "a drawn text", text) {
			right++
		}
	}
	if right < 2000 || right > 18000 {
		t.Errorf("%d of the drawn texts are right", right)
	}
}

// plainMost holds those of conf that are in the list against those that are not.
func plainMost(conf, list []int) bool {
	if !plainConfOk(conf) {
		return false
	}
	in := map[int]int{}
	for _, n := range list {
		in[n] = 1
	}
	there, missing := 0, 0
	for _, n := range conf {
		there += in[n]
		missing += 1 - in[n]
	}
	return there > missing
}

func wantMost(t *testing.T, why string, conf, list []int) bool {
	t.Helper()
	got := impl.Most(conf, list)
	if got != plainMost(conf, list) {
		t.Errorf("%s: Most(%v, %v and so on, %d numbers) = %v", why, conf, list[:min(8, len(list))], len(list), got)
	}
	return got
}

func TestMostByHand(t *testing.T) {
	for _, c := range []struct {
		conf, list []int
		most       bool
	}{
		{numbers(1), nil, false},
		{numbers(1), numbers(1), true},
		{numbers(1), numbers(2), false},
		{numbers(4), numbers(4), true},
		{numbers(1, 2), nil, false},
		{numbers(1, 2), numbers(1), false},
		{numbers(1, 2), numbers(2), false},
		{numbers(1, 2), numbers(1, 2), true},
		{numbers(1, 2), numbers(1, 1), false},
		{numbers(1, 2), numbers(2, 1), true},
		{numbers(1, 2), numbers(1, 3), false},
		{numbers(1, 2), numbers(3, 4), false},
		{numbers(1, 2, 3), nil, false},
		{numbers(1, 2, 3), numbers(3), false},
		{numbers(1, 2, 3), numbers(1, 3), true},
		{numbers(1, 2, 3), numbers(3, 1), true},
		{numbers(1, 2, 3), numbers(3, 3, 3), false},
		{numbers(1, 2, 3), numbers(3, 4), false},
		{numbers(1, 2, 3), numbers(1, 2, 3), true},
		{numbers(1, 2, 4), numbers(1, 3), false},
		{numbers(1, 2, 3, 4), numbers(1, 2), false},
		{numbers(1, 2, 3, 4), numbers(3, 4), false},
		{numbers(1, 2, 3, 4), numbers(1, 2, 1, 2), false},
		{numbers(1, 2, 3, 4), numbers(1, 2, 4), true},
		{numbers(1, 2, 3, 4), numbers(4, 2, 1), true},
		{numbers(1, 2, 3, 4), numbers(1, 2, 3, 4), true},
		{numbers(1, 2, 3, 4), numbers(1, 2, 5), false},
		{numbers(2, 3, 4), numbers(0, 1, 2, 5), false},
		{numbers(2, 3, 4), numbers(-1, 4, 9, 2, 4), true},
		{numbers(1, 2), numbers(257, 258), false},
		{numbers(1, 2), numbers(-255, -254, 1), false},
		{numbers(1), numbers(math.MinInt, math.MaxInt), false},
		{numbers(1), numbers(math.MinInt, 1, math.MaxInt), true},
		{nil, nil, false},
		{nil, numbers(1), false},
		{numbers(), numbers(0), false},
		{numbers(0), numbers(0), false},
		{numbers(5), numbers(5), false},
		{numbers(-1), numbers(-1), false},
		{numbers(2, 1), numbers(1, 2), false},
		{numbers(2, 2), numbers(2), false},
		{numbers(1, 1, 2), numbers(1), false},
		{numbers(1, 2, 5), numbers(1, 2, 5), false},
		{numbers(0, 1, 2), numbers(0, 1, 2), false},
		{numbers(1, 2, 3, 4, 5), numbers(1, 2, 3, 4, 5), false},
		{numbers(257), numbers(1, 257), false},
	} {
		if got := impl.Most(c.conf, c.list); got != c.most {
			t.Errorf("Most(%v, %v) = %v; want %v", c.conf, c.list, got, c.most)
		}
	}
}

func TestMostOfEachConfAndList(t *testing.T) {
	yes := 0
	for _, conf := range rightConfs() {
		for _, list := range listsOf(5, 0, 1, 2, 3, 4, 5) {
			if wantMost(t, "a right conf", conf, list) {
				yes++
			}
		}
	}
	if yes < 10000 {
		t.Errorf("%d of the lists have most", yes)
	}
	for _, conf := range listsOf(5, 0, 1, 2, 4, 5) {
		for _, list := range [][]int{nil, {1}, {1, 2}, {1, 2, 3, 4}, {0, 1, 2, 3, 4, 5}, conf} {
			wantMost(t, "any conf", conf, list)
		}
	}
}

func TestMostOfLongLists(t *testing.T) {
	for _, conf := range rightConfs() {
		need := len(conf)/2 + 1
		far := slices.Repeat([]int{-7, 0, 5, 9, 256 + conf[0]}, 2000)
		wantMost(t, "none of it", conf, far)
		for n := range len(conf) + 1 {
			list := slices.Concat(far, conf[:n])
			if got := wantMost(t, "some of it behind", conf, list); got != (n >= need) {
				t.Errorf("Most of %d of %v = %v", n, conf, got)
			}
			wantMost(t, "some of it ahead", conf, slices.Concat(conf[:n], far))
			wantMost(t, "each of them often", conf, slices.Repeat(conf[:n], 1000))
		}
	}
}

// Two lists that each have most of one conf have a node of it in both.
func TestTwoMostsMeet(t *testing.T) {
	for _, conf := range rightConfs() {
		for _, a := range rightConfs() {
			for _, b := range rightConfs() {
				if !impl.Most(conf, a) || !impl.Most(conf, b) {
					continue
				}
				met := slices.ContainsFunc(conf, func(n int) bool { return slices.Contains(a, n) && slices.Contains(b, n) })
				if !met {
					t.Errorf("%v and %v are both most of %v", a, b, conf)
				}
			}
		}
	}
}

func TestArgumentsOfEntriesStay(t *testing.T) {
	room := numbers(1, 2, 3, 4, 77, 88, 99)
	other := numbers(4, 2, 1, 1, 9, 55, 66)
	keptRoom, keptOther := slices.Clone(room), slices.Clone(other)
	for n := range len(room) + 1 {
		impl.ConfText(room[:n])
		impl.ConfText(other[:n])
		for k := range len(other) + 1 {
			impl.Most(room[:n], other[:k])
			impl.Most(other[:n], room[:k])
		}
	}
	if !slices.Equal(room, keptRoom) || !slices.Equal(other, keptOther) {
		t.Errorf("an argument is another now: %v, %v", room, other)
	}
}

func TestAnswersOfEntriesAreNewMemory(t *testing.T) {
	for why, e := range rightEntries() {
		handed := newWords(e.Data)
		e.Data = handed[0]
		text, _ := impl.EntryText(3, e)
		wantOwn(t, why+": EntryText", []string{text}, handed)
		wantOwn(t, why+": EntryText", handed, []string{text})
		_, again, _ := impl.ReadEntry(text)
		wantOwn(t, why+": ReadEntry", []string{again.Data}, []string{text})
	}
	for text, conf := range rightConfs() {
		first, _ := impl.ReadConf(text)
		second, _ := impl.ReadConf(text)
		overwrite(first)
		if !slices.Equal(second, conf) {
			t.Errorf("two answers of ReadConf(%q) share memory", text)
		}
		wantConf(t, "read again", text)
		told, _ := impl.ConfText(conf)
		overwrite(conf)
		if told != text {
			t.Errorf("ConfText answers memory of its argument: %q, not %q", told, text)
		}
	}
}

func TestEmptyListsOfConfs(t *testing.T) {
	for _, none := range [][]int{nil, {}, numbers(1, 2)[:0]} {
		wantConfText(t, "an empty list", none)
		wantMost(t, "an empty conf", none, numbers(1))
		wantMost(t, "an empty list", numbers(1), none)
		wantMost(t, "both empty", none, none)
	}
}

func TestManyEntriesAtOnce(t *testing.T) {
	var all sync.WaitGroup
	entries, confs := rightEntries(), rightConfs()
	for range 8 {
		all.Add(1)
		go func() {
			defer all.Done()
			for why, e := range entries {
				entryComesBack(t, why+", at once", 300, e)
				wantNoEntry(t, why+", at once", plainEntryText(0, e))
			}
			for text, conf := range confs {
				wantConfText(t, "at once", conf)
				wantConf(t, "at once", text)
				wantMost(t, "at once", conf, conf)
			}
		}()
	}
	all.Wait()
}
