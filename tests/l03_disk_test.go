package tests

import (
	"fmt"
	"math"
	"slices"
	"strings"
	"testing"

	"loop.example/g00103/impl"
)

// diskOf makes a disk of names and texts in turn.
func diskOf(words ...string) impl.Disk {
	var d impl.Disk
	for at := 0; at < len(words); at += 2 {
		d.Files = append(d.Files, impl.File{Name: words[at], Text: words[at+1]})
	}
	return d
}

// fullDisk has n files, f10, f11 and so on.
func fullDisk(n int) impl.Disk {
	var d impl.Disk
	for at := range n {
		d.Files = append(d.Files, impl.File{Name: fmt.Sprint("f", 10+at), Text: fmt.Sprint(at)})
	}
	return d
}

func put(name, text string) impl.Raw { return impl.Raw{Kind: impl.RawPut, Name: name, Text: text} }
func add(name, text string) impl.Raw { return impl.Raw{Kind: impl.RawAdd, Name: name, Text: text} }
func move(name, to string) impl.Raw  { return impl.Raw{Kind: impl.RawMove, Name: name, To: to} }
func drop(name string) impl.Raw      { return impl.Raw{Kind: impl.RawDrop, Name: name} }
func letters(n int) string           { return strings.Repeat("x", n) }
func sameDisk(a, b impl.Disk) bool   { return slices.Equal(a.Files, b.Files) }
func repeated(r impl.Raw, n int) []impl.Raw {
	return slices.Repeat([]impl.Raw{r}, n)
}

// short tells a disk without the whole of its long texts.
func short(d impl.Disk) string {
	var b strings.Builder
	for _, f := range d.Files {
		fmt.Fprintf(&b, "[%q %.12q of %d]", f.Name, f.Text, len(f.Text))
	}
	return b.String()
}

// wrongDisks has disks that are not right, each for one reason.
func wrongDisks() map[string]impl.Disk {
	return map[string]impl.Disk{
		"a file too many":           fullDisk(31),
		"a name of no bytes":        diskOf("", "1"),
		"no name ahead of others":   diskOf("", "1", "a", "2"),
		"a name of 13 bytes":        diskOf(letters(13), "1"),
		"a last name of 13 bytes":   diskOf("a", "1", letters(13), "1"),
		"a text of MaxText + 1":     diskOf("a", letters(20001)),
		"a last text of too many":   diskOf("a", "", "b", letters(20001)),
		"names that fall":           diskOf("b", "1", "a", "2"),
		"last names that fall":      diskOf("a", "1", "c", "2", "b", "3"),
		"two names alike":           diskOf("a", "1", "a", "1"),
		"two last names alike":      diskOf("a", "1", "b", "1", "b", "2"),
		"a beginning behind":        diskOf("ab", "1", "a", "2"),
		"names by number, not byte": diskOf("f9", "1", "f10", "2"),
		"a high byte ahead":         diskOf("\xff", "1", "a", "2"),
	}
}

func rightDisks() map[string]impl.Disk {
	return map[string]impl.Disk{
		"no files":             {},
		"an empty list":        {Files: []impl.File{}},
		"one file":             diskOf("a", "1"),
		"an empty text":        diskOf("a", ""),
		"a name of one byte":   diskOf("\x00", "1"),
		"a name of 12 bytes":   diskOf(letters(12), "1"),
		"a text of MaxText":    diskOf("a", letters(20000)),
		"MaxFiles files":       fullDisk(30),
		"one file fewer":       fullDisk(29),
		"a beginning ahead":    diskOf("a", "1", "a\x00", "2", "ab", "3"),
		"bytes, not letters":   diskOf("B", "1", "a", "2", "\x80", "3", "\xff", "4"),
		"texts that are alike": diskOf("a", "1", "b", "1"),
	}
}

func TestDiskLimits(t *testing.T) {
	if impl.MaxFiles != 30 || impl.MaxName != 12 || impl.MaxRaws != 60 {
		t.Error("a limit is not the document's")
	}
	if impl.RawPut != 1 || impl.RawAdd != 2 || impl.RawMove != 3 || impl.RawDrop != 4 {
		t.Error("a kind is not the document's")
	}
}

func TestDiskOk(t *testing.T) {
	for why, d := range rightDisks() {
		if !impl.DiskOk(d) {
			t.Errorf("%s: DiskOk is false", why)
		}
	}
	for why, d := range wrongDisks() {
		if impl.DiskOk(d) {
			t.Errorf("%s: DiskOk is true", why)
		}
	}
}

func TestFileAt(t *testing.T) {
	for why, d := range rightDisks() {
		for _, f := range d.Files {
			if text, ok := impl.FileAt(d, f.Name); !ok || text != f.Text {
				t.Errorf("%s: FileAt(%q) = %.20q, %v", why, f.Name, text, ok)
			}
		}
		for _, name := range []string{"", "\x01", "aa", "b\x00", "f1", "f40", letters(11), letters(13), letters(20001)} {
			if text, ok := impl.FileAt(d, name); ok || text != "" {
				t.Errorf("%s: FileAt(%.20q) = %.20q, %v; want none", why, name, text, ok)
			}
		}
	}
	for why, d := range wrongDisks() {
		for _, f := range append(d.Files, impl.File{Name: "none"}) {
			if text, ok := impl.FileAt(d, f.Name); ok || text != "" {
				t.Errorf("%s: FileAt(%q) = %.20q, %v; want none", why, f.Name, text, ok)
			}
		}
	}
}

// rawCase is a raw write, the disk ahead of it, and the one behind it.
type rawCase struct {
	why    string
	before impl.Disk
	raw    impl.Raw
	after  impl.Disk
}

func doneRaws() []rawCase {
	ab := diskOf("a", "1", "b", "22")
	return []rawCase{
		{"put of a first file", diskOf(), put("a", "1"), diskOf("a", "1")},
		{"put of no text", diskOf(), put("a", ""), diskOf("a", "")},
		{"put over a text", ab, put("a", "xy"), diskOf("a", "xy", "b", "22")},
		{"put of no text over a text", ab, put("b", ""), diskOf("a", "1", "b", "")},
		{"put ahead", ab, put("A", "0"), diskOf("A", "0", "a", "1", "b", "22")},
		{"put between", ab, put("ab", "0"), diskOf("a", "1", "ab", "0", "b", "22")},
		{"put behind", ab, put("\xff", "0"), diskOf("a", "1", "b", "22", "\xff", "0")},
		{"put of a name of 12 bytes", diskOf(), put(letters(12), "1"), diskOf(letters(12), "1")},
		{"put of MaxText bytes", diskOf(), put("a", letters(20000)), diskOf("a", letters(20000))},
		{"put of the last file that may be", fullDisk(29), put("f39", "29"), fullDisk(30)},
		{"put over a file of a full disk", fullDisk(30), put("f39", "29"), fullDisk(30)},
		{"add to a text", ab, add("a", "23"), diskOf("a", "123", "b", "22")},
		{"add to no file", ab, add("c", "3"), diskOf("a", "1", "b", "22", "c", "3")},
		{"add of nothing", ab, add("a", ""), ab},
		{"add of nothing to no file", ab, add("c", ""), diskOf("a", "1", "b", "22", "c", "")},
		{"add to an empty text", diskOf("a", ""), add("a", "1"), diskOf("a", "1")},
		{"add up to MaxText bytes", diskOf("a", letters(19999)), add("a", "x"), diskOf("a", letters(20000))},
		{"add of nothing to MaxText bytes", diskOf("a", letters(20000)), add("a", ""), diskOf("a", letters(20000))},
		{"add of MaxText bytes to no file", diskOf(), add("a", letters(20000)), diskOf("a", letters(20000))},
		{"add of the last file that may be", fullDisk(29), add("f39", "29"), fullDisk(30)},
		{"add to a file of a full disk", fullDisk(30), add("f39", ""), fullDisk(30)},
		{"add to a name of 12 bytes", diskOf(), add(letters(12), "1"), diskOf(letters(12), "1")},
		{"move to a new name", ab, move("a", "c"), diskOf("b", "22", "c", "1")},
		{"move onto a file", ab, move("a", "b"), diskOf("b", "1")},
		{"move onto a file ahead", ab, move("b", "a"), diskOf("a", "22")},
		{"move onto itself", ab, move("a", "a"), ab},
		{"move of an empty text", diskOf("a", "", "b", "2"), move("a", "b"), diskOf("b", "")},
		{"move to a name of 12 bytes", diskOf("a", "1"), move("a", letters(12)), diskOf(letters(12), "1")},
		{"move on a full disk", fullDisk(30), move("f39", "f0"), diskAhead("f0", "29", fullDisk(29))},
		{"drop of the only file", diskOf("a", "1"), drop("a"), diskOf()},
		{"drop of a first file", ab, drop("a"), diskOf("b", "22")},
		{"drop of a last file", ab, drop("b"), diskOf("a", "1")},
		{"drop on a full disk", fullDisk(30), drop("f39"), fullDisk(29)},
	}
}

func diskAhead(name, text string, d impl.Disk) impl.Disk {
	return impl.Disk{Files: append([]impl.File{{Name: name, Text: text}}, d.Files...)}
}

func refusedRaws() []rawCase {
	ab := diskOf("a", "1", "b", "22")
	return []rawCase{
		{why: "Kind 0", before: ab, raw: impl.Raw{Kind: 0, Name: "a", To: "b", Text: "x"}},
		{why: "Kind 5", before: ab, raw: impl.Raw{Kind: 5, Name: "a", To: "b", Text: "x"}},
		{why: "Kind -1", before: ab, raw: impl.Raw{Kind: -1, Name: "a"}},
		{why: "the greatest Kind", before: ab, raw: impl.Raw{Kind: math.MaxInt, Name: "a"}},
		{why: "the least Kind", before: ab, raw: impl.Raw{Kind: math.MinInt, Name: "a"}},
		{why: "a zero raw write", before: diskOf(), raw: impl.Raw{}},
		{why: "put of no name", before: ab, raw: put("", "1")},
		{why: "put of a name of 13 bytes", before: ab, raw: put(letters(13), "1")},
		{why: "put of MaxText + 1 bytes", before: ab, raw: put("a", letters(20001))},
		{why: "put of a file too many", before: fullDisk(30), raw: put("g", "")},
		{why: "add to no name", before: ab, raw: add("", "1")},
		{why: "add of nothing to no name", before: ab, raw: add("", "")},
		{why: "add to a name of 13 bytes", before: ab, raw: add(letters(13), "1")},
		{why: "add of MaxText + 1 bytes", before: diskOf(), raw: add("a", letters(20001))},
		{why: "add of MaxText bytes to one", before: ab, raw: add("a", letters(20000))},
		{why: "add of one byte to MaxText", before: diskOf("a", letters(20000)), raw: add("a", "x")},
		{why: "add of a file too many", before: fullDisk(30), raw: add("g", "")},
		{why: "move of no file", before: ab, raw: move("c", "d")},
		{why: "move of no file onto itself", before: ab, raw: move("c", "c")},
		{why: "move of no file onto one", before: ab, raw: move("c", "a")},
		{why: "move on no files", before: diskOf(), raw: move("a", "b")},
		{why: "move to no name", before: ab, raw: move("a", "")},
		{why: "move to a name of 13 bytes", before: ab, raw: move("a", letters(13))},
		{why: "move of no name", before: ab, raw: move("", "a")},
		{why: "move of no name onto itself", before: ab, raw: move("", "")},
		{why: "drop of no file", before: ab, raw: drop("c")},
		{why: "drop of no name", before: ab, raw: drop("")},
		{why: "drop on no files", before: diskOf(), raw: drop("a")},
		{why: "drop of a beginning", before: diskOf("ab", "1"), raw: drop("a")},
	}
}

func TestPutRaw(t *testing.T) {
	for _, c := range doneRaws() {
		if d, ok := impl.PutRaw(c.before, c.raw); !ok || !sameDisk(d, c.after) || !impl.DiskOk(d) {
			t.Errorf("%s: PutRaw = %s, %v; want %s", c.why, short(d), ok, short(c.after))
		}
	}
	for _, c := range refusedRaws() {
		if d, ok := impl.PutRaw(c.before, c.raw); ok || len(d.Files) != 0 {
			t.Errorf("%s: PutRaw = %s, %v; want none", c.why, short(d), ok)
		}
	}
}

func TestPutRawOnWrongDisks(t *testing.T) {
	for why, d := range wrongDisks() {
		first, last := d.Files[0].Name, d.Files[len(d.Files)-1].Name
		for _, r := range []impl.Raw{put("n", "1"), add("n", "1"), put(last, ""), move(first, "n"), drop(first), drop(last), {}} {
			if after, ok := impl.PutRaw(d, r); ok || len(after.Files) != 0 {
				t.Errorf("%s: PutRaw of Kind %d = %s, %v; want none", why, r.Kind, short(after), ok)
			}
		}
	}
}

// Each field that its Kind does not name holds what would be wrong elsewhere.
func TestFieldsThatAKindDoesNotName(t *testing.T) {
	before := diskOf("a", "1", "b", "2")
	for _, odd := range []string{"", "a", "b", "c", letters(13), letters(20001)} {
		for _, c := range []struct {
			raw   impl.Raw
			after impl.Disk
		}{
			{impl.Raw{Kind: impl.RawPut, Name: "a", To: odd, Text: "x"}, diskOf("a", "x", "b", "2")},
			{impl.Raw{Kind: impl.RawAdd, Name: "a", To: odd, Text: "x"}, diskOf("a", "1x", "b", "2")},
			{impl.Raw{Kind: impl.RawMove, Name: "a", To: "c", Text: odd}, diskOf("b", "2", "c", "1")},
			{impl.Raw{Kind: impl.RawDrop, Name: "a", To: odd, Text: "x"}, diskOf("b", "2")},
			{impl.Raw{Kind: impl.RawDrop, Name: "a", To: "x", Text: odd}, diskOf("b", "2")},
		} {
			if d, ok := impl.PutRaw(before, c.raw); !ok || !sameDisk(d, c.after) {
				t.Errorf("Kind %d beside %.20q: PutRaw = %s, %v", c.raw.Kind, odd, short(d), ok)
			}
			if d, n := impl.PutRaws(before, []impl.Raw{c.raw}); n != 1 || !sameDisk(d, c.after) {
				t.Errorf("Kind %d beside %.20q: PutRaws = %s, %d", c.raw.Kind, odd, short(d), n)
			}
			if d, ok := impl.CutRaws(before, []impl.Raw{c.raw}, 1, 0); !ok || !sameDisk(d, c.after) {
				t.Errorf("Kind %d beside %.20q: CutRaws = %s, %v", c.raw.Kind, odd, short(d), ok)
			}
		}
	}
}

// plainDo follows the document's rule on a list that is searched from its beginning.
func plainDo(d impl.Disk, r impl.Raw) (impl.Disk, bool) {
	at := slices.IndexFunc(d.Files, func(f impl.File) bool { return f.Name == r.Name })
	had, others := "", []impl.File{}
	for i, f := range d.Files {
		if i == at {
			had = f.Text
		} else if r.Kind != impl.RawMove || f.Name != r.To {
			others = append(others, f)
		}
	}
	switch r.Kind {
	case impl.RawPut:
		others = append(others, impl.File{Name: r.Name, Text: r.Text})
	case impl.RawAdd:
		others = append(others, impl.File{Name: r.Name, Text: had + r.Text})
	case impl.RawMove:
		others = append(others, impl.File{Name: r.To, Text: had})
	}
	slices.SortFunc(others, func(a, b impl.File) int { return strings.Compare(a.Name, b.Name) })
	after := impl.Disk{Files: others}
	missing := at < 0 && r.Kind >= impl.RawMove
	if missing || r.Kind < impl.RawPut || r.Kind > impl.RawDrop || !impl.DiskOk(after) {
		return impl.Disk{}, false
	}
	return after, true
}

// drawnRaws draws lists of raw writes, always the same ones: few names, so
// that they meet; now and then one that is refused.
func drawnRaws(lists, size int) [][]impl.Raw {
	seed := uint32(1)
	draw := func(n int) int {
		seed = seed*1664525 + 1013904223
		return int(seed>>16) % n
	}
	names := []string{"a", "b", "c", "d", "ab", "\xff", letters(12)}
	texts := []string{"", "1", "22", "x\x00y", "four", letters(9000)}
	var all [][]impl.Raw
	for range lists {
		var list []impl.Raw
		for range draw(size + 1) {
			r := impl.Raw{Kind: 1 + draw(4), Name: names[draw(len(names))], To: names[draw(len(names))], Text: texts[draw(len(texts))]}
			switch draw(40) {
			case 0:
				r.Kind = 5 * draw(2)
			case 1:
				r.Name = ""
			case 2:
				r.To = letters(13)
			}
			list = append(list, r)
		}
		all = append(all, list)
	}
	return all
}

func disksToWriteOn() []impl.Disk {
	return []impl.Disk{diskOf(), diskOf("a", "1", "c", "333"), diskOf("a", letters(19998), "d", ""), fullDisk(28)}
}

// oneByOne puts the raw writes by PutRaw up to the first that it refuses.
func oneByOne(d impl.Disk, list []impl.Raw) (impl.Disk, int) {
	for n, r := range list {
		after, ok := impl.PutRaw(d, r)
		if !ok {
			return d, n
		}
		d = after
	}
	return d, len(list)
}

func TestPutRawOfDrawnOnes(t *testing.T) {
	for _, d := range disksToWriteOn() {
		for _, list := range drawnRaws(300, 12) {
			now := d
			for _, r := range list {
				got, ok := impl.PutRaw(now, r)
				want, wok := plainDo(now, r)
				if ok != wok || !sameDisk(got, want) {
					t.Fatalf("PutRaw(%s, Kind %d of %q) = %s, %v; want %s, %v", short(now), r.Kind, r.Name, short(got), ok, short(want), wok)
				}
				if ok {
					now = got
				}
			}
		}
	}
}

func TestOneByOneIsAllAtOnce(t *testing.T) {
	refused := 0
	for _, d := range disksToWriteOn() {
		for _, list := range drawnRaws(300, 60) {
			want, done := oneByOne(d, list)
			got, n := impl.PutRaws(d, list)
			if n != done || !sameDisk(got, want) {
				t.Fatalf("PutRaws of %d = %s, %d; want %s, %d", len(list), short(got), n, short(want), done)
			}
			if done < len(list) {
				refused++
			}
		}
	}
	if refused == 0 {
		t.Error("no drawn list has a raw write that is refused")
	}
}

func TestPutRawsOfOneIsPutRaw(t *testing.T) {
	for _, c := range doneRaws() {
		if d, n := impl.PutRaws(c.before, []impl.Raw{c.raw}); n != 1 || !sameDisk(d, c.after) {
			t.Errorf("%s: PutRaws = %s, %d; want %s, 1", c.why, short(d), n, short(c.after))
		}
	}
	for _, c := range refusedRaws() {
		if d, n := impl.PutRaws(c.before, []impl.Raw{c.raw}); n != 0 || !sameDisk(d, c.before) {
			t.Errorf("%s: PutRaws = %s, %d; want %s, 0", c.why, short(d), n, short(c.before))
		}
	}
}

// What is refused in the midst leaves nothing, and nothing behind it is done.
func TestPutRawsUpToTheFirstRefused(t *testing.T) {
	for _, c := range refusedRaws() {
		list := []impl.Raw{c.raw, put("a", "behind"), drop("a")}
		if d, n := impl.PutRaws(c.before, list); n != 0 || !sameDisk(d, c.before) {
			t.Errorf("%s first: PutRaws = %s, %d; want %s, 0", c.why, short(d), n, short(c.before))
		}
		if len(c.before.Files) == 0 {
			continue
		}
		last := c.before.Files[len(c.before.Files)-1]
		list = append([]impl.Raw{move(last.Name, last.Name), add(last.Name, "")}, list...)
		if d, n := impl.PutRaws(c.before, list); n != 2 || !sameDisk(d, c.before) {
			t.Errorf("%s in the midst: PutRaws = %s, %d; want %s, 2", c.why, short(d), n, short(c.before))
		}
	}
	d, n := impl.PutRaws(diskOf("a", "1"), []impl.Raw{put("b", "2"), move("a", letters(13)), drop("a")})
	if n != 1 || !sameDisk(d, diskOf("a", "1", "b", "2")) {
		t.Errorf("a move to no right name in the midst: %s, %d", short(d), n)
	}
}

func TestPutRawsOfManyAndOfNone(t *testing.T) {
	a := diskOf("a", "")
	for why, d := range rightDisks() {
		for _, none := range [][]impl.Raw{nil, {}} {
			if after, n := impl.PutRaws(d, none); n != 0 || !sameDisk(after, d) {
				t.Errorf("%s: PutRaws of none = %s, %d", why, short(after), n)
			}
		}
	}
	if d, n := impl.PutRaws(a, repeated(add("a", "x"), 60)); n != 60 || !sameDisk(d, diskOf("a", letters(60))) {
		t.Errorf("PutRaws of MaxRaws = %s, %d", short(d), n)
	}
	for _, list := range [][]impl.Raw{repeated(add("a", "x"), 61), repeated(drop("none"), 61), repeated(add("a", "x"), 1000)} {
		if d, n := impl.PutRaws(a, list); n != 0 || len(d.Files) != 0 {
			t.Errorf("PutRaws of %d = %s, %d; want none", len(list), short(d), n)
		}
	}
	for why, d := range wrongDisks() {
		for _, list := range [][]impl.Raw{nil, {put("n", "1")}, {drop(d.Files[0].Name)}, {{}}} {
			if after, n := impl.PutRaws(d, list); n != 0 || len(after.Files) != 0 {
				t.Errorf("%s: PutRaws of %d = %s, %d; want none", why, len(list), short(after), n)
			}
		}
	}
}

// A disk that is full or a text that is long in between is refused there, though what comes in the end would be right.
func TestPutRawsLooksAtEachDiskBetween(t *testing.T) {
	if d, n := impl.PutRaws(fullDisk(30), []impl.Raw{put("g", ""), drop("g")}); n != 0 || !sameDisk(d, fullDisk(30)) {
		t.Errorf("a file too many for a while: %s, %d", short(d), n)
	}
	if d, n := impl.PutRaws(fullDisk(30), []impl.Raw{drop("f10"), put("f10", "0")}); n != 2 || !sameDisk(d, fullDisk(30)) {
		t.Errorf("dropped, and put again: %s, %d", short(d), n)
	}
	if d, n := impl.PutRaws(diskOf("a", "1"), []impl.Raw{add("a", letters(20000)), put("a", "")}); n != 0 || !sameDisk(d, diskOf("a", "1")) {
		t.Errorf("a text too long for a while: %s, %d", short(d), n)
	}
}

func TestCutBehindWholeOnes(t *testing.T) {
	for _, d := range disksToWriteOn() {
		for _, list := range drawnRaws(100, 30) {
			_, done := impl.PutRaws(d, list)
			for n := range len(list) + 1 {
				want, _ := impl.PutRaws(d, list[:n])
				got, ok := impl.CutRaws(d, list, n, 0)
				if n <= done && (!ok || !sameDisk(got, want)) {
					t.Fatalf("cut behind %d: %s, %v; want %s", n, short(got), ok, short(want))
				}
				if n > done && (ok || len(got.Files) != 0) {
					t.Fatalf("cut behind %d, of which %d are done: %s, %v", n, done, short(got), ok)
				}
			}
		}
	}
}

// wantCut asks for the disk of before, but that the file name has text.
func wantCut(t *testing.T, before impl.Disk, list []impl.Raw, whole, part int, name, text string) {
	t.Helper()
	got, ok := impl.CutRaws(before, list, whole, part)
	want, _ := plainDo(before, put(name, text))
	if !ok || !sameDisk(got, want) {
		t.Errorf("part %d of Kind %d of %q: %s, %v; want %s", part, list[whole].Kind, name, short(got), ok, short(want))
	}
}

func TestCutAtEveryPart(t *testing.T) {
	before := diskOf("a", "old one", "c", "", "e", "other")
	text := "\x00new text" + allBytes()
	for _, name := range []string{"a", "b", "c", "e", "f"} {
		had, _ := impl.FileAt(before, name)
		for part := 1; part <= len(text); part++ {
			wantCut(t, before, []impl.Raw{put(name, text), drop("a")}, 0, part, name, text[:part])
			wantCut(t, before, []impl.Raw{add(name, text)}, 0, part, name, had+text[:part])
		}
		for _, r := range []impl.Raw{put(name, text), add(name, text)} {
			if d, ok := impl.CutRaws(before, []impl.Raw{r}, 0, 0); !ok || !sameDisk(d, before) {
				t.Errorf("part 0 of Kind %d of %q: %s, %v; want the disk as it was", r.Kind, name, short(d), ok)
			}
			cut, _ := impl.CutRaws(before, []impl.Raw{r}, 0, len(text))
			if whole, ok := impl.CutRaws(before, []impl.Raw{r}, 1, 0); !ok || !sameDisk(cut, whole) {
				t.Errorf("the whole Text of Kind %d of %q is not the whole of it", r.Kind, name)
			}
		}
	}
}

func TestCutLeavesABeginningMore(t *testing.T) {
	for _, d := range disksToWriteOn() {
		for _, list := range drawnRaws(60, 8) {
			_, done := impl.PutRaws(d, list)
			for n, next := range list[:done] {
				ahead, _ := impl.PutRaws(d, list[:n])
				cutEverywhere(t, d, ahead, list, n, next)
			}
		}
	}
}

func cutEverywhere(t *testing.T, d, ahead impl.Disk, list []impl.Raw, n int, next impl.Raw) {
	t.Helper()
	if next.Kind >= impl.RawMove {
		if cut, ok := impl.CutRaws(d, list, n, 1); ok || len(cut.Files) != 0 {
			t.Fatalf("part 1 of Kind %d: %s, %v", next.Kind, short(cut), ok)
		}
		return
	}
	had, _ := impl.FileAt(ahead, next.Name)
	if next.Kind == impl.RawPut {
		had = ""
	}
	step := 1 + len(next.Text)/4
	for part := step; part <= len(next.Text); part += step {
		want, _ := plainDo(ahead, put(next.Name, had+next.Text[:part]))
		if cut, ok := impl.CutRaws(d, list, n, part); !ok || !sameDisk(cut, want) {
			t.Fatalf("part %d of Kind %d: %s, %v; want %s", part, next.Kind, short(cut), ok, short(want))
		}
	}
}

func TestCutOfAPartOfNoBytes(t *testing.T) {
	for _, before := range []impl.Disk{diskOf(), diskOf("b", "1"), fullDisk(30)} {
		for _, r := range []impl.Raw{put("a", "text"), add("a", "text"), put("a", ""), add("a", ""), put("", "x"), add(letters(13), "x"), drop("none"), move("none", ""), {}, {Kind: 5, Text: "x"}} {
			if d, ok := impl.CutRaws(before, []impl.Raw{r, r}, 0, 0); !ok || !sameDisk(d, before) {
				t.Errorf("part 0 of Kind %d of %q: %s, %v; want the disk as it was", r.Kind, r.Name, short(d), ok)
			}
		}
	}
	d, ok := impl.CutRaws(diskOf("b", "1"), []impl.Raw{drop("b"), put("a", "text")}, 1, 0)
	if !ok || len(d.Files) != 0 {
		t.Errorf("part 0 behind the only file's drop: %s, %v", short(d), ok)
	}
}

func wantNoCut(t *testing.T, why string, d impl.Disk, list []impl.Raw, whole, part int) {
	t.Helper()
	if cut, ok := impl.CutRaws(d, list, whole, part); ok || len(cut.Files) != 0 {
		t.Errorf("%s: CutRaws(.., %d, %d) = %s, %v; want none", why, whole, part, short(cut), ok)
	}
}

func TestCutPlaces(t *testing.T) {
	before := diskOf("a", "1")
	list := []impl.Raw{put("b", "22"), add("a", "333"), move("b", "c"), drop("a")}
	for _, whole := range []int{-1, 5, 61, math.MinInt, math.MaxInt} {
		wantNoCut(t, "no such place", before, list, whole, 0)
		wantNoCut(t, "no such place", before, list, whole, 1)
	}
	for whole := range 5 {
		most := []int{2, 3, 0, 0, 0}[whole]
		for part := range most + 1 {
			if d, ok := impl.CutRaws(before, list, whole, part); !ok || !impl.DiskOk(d) {
				t.Errorf("CutRaws(.., %d, %d) = %s, %v", whole, part, short(d), ok)
			}
		}
		for _, part := range []int{-1, most + 1, math.MinInt, math.MaxInt} {
			wantNoCut(t, "no such part", before, list, whole, part)
		}
	}
	for _, part := range []int{-1, 1, math.MaxInt} {
		wantNoCut(t, "no raw writes", before, nil, 0, part)
	}
	if d, ok := impl.CutRaws(before, nil, 0, 0); !ok || !sameDisk(d, before) {
		t.Errorf("a cut of none = %s, %v", short(d), ok)
	}
	wantNoCut(t, "behind none", before, nil, 1, 0)
	for _, kind := range []int{-1, 0, impl.RawMove, impl.RawDrop, 5, math.MaxInt} {
		next := []impl.Raw{{Kind: kind, Name: "a", To: "b", Text: "text"}}
		wantNoCut(t, "a Kind without parts", before, next, 0, 1)
		wantNoCut(t, "a Kind without parts", before, next, 0, 4)
	}
}

func TestCutLimits(t *testing.T) {
	a := diskOf("a", "")
	sixty := repeated(add("a", "xx"), 60)
	if d, ok := impl.CutRaws(a, sixty, 59, 1); !ok || !sameDisk(d, diskOf("a", letters(119))) {
		t.Errorf("MaxRaws, cut in the last: %s, %v", short(d), ok)
	}
	if d, ok := impl.CutRaws(a, sixty, 60, 0); !ok || !sameDisk(d, diskOf("a", letters(120))) {
		t.Errorf("MaxRaws, all whole: %s, %v", short(d), ok)
	}
	more := repeated(add("a", "xx"), 61)
	for _, whole := range []int{0, 1, 60, 61} {
		wantNoCut(t, "more than MaxRaws", a, more, whole, 0)
	}
	for why, d := range wrongDisks() {
		wantNoCut(t, why, d, nil, 0, 0)
		wantNoCut(t, why, d, []impl.Raw{put("n", "1")}, 0, 1)
		wantNoCut(t, why, d, []impl.Raw{drop(d.Files[0].Name)}, 1, 0)
	}
}

func TestCutThatIsRefused(t *testing.T) {
	for _, c := range refusedRaws() {
		wantNoCut(t, c.why, c.before, []impl.Raw{c.raw}, 1, 0)
		list := []impl.Raw{add("z", "")}
		if len(c.before.Files) == 30 {
			list[0] = add("f10", "")
		}
		list = append(list, c.raw, put("y", "text"))
		if d, ok := impl.CutRaws(c.before, list, 1, 0); !ok || !impl.DiskOk(d) {
			t.Errorf("%s, not reached: %s, %v", c.why, short(d), ok)
		}
		wantNoCut(t, c.why+" in the midst", c.before, list, 2, 0)
		wantNoCut(t, c.why+" ahead of a part", c.before, list, 2, 1)
		wantNoCut(t, c.why+" ahead of others", c.before, list, 3, 0)
	}
}

// The part itself is looked at, not the whole of its raw write.
func TestCutWhosePartIsRefused(t *testing.T) {
	full := fullDisk(30)
	for _, r := range []impl.Raw{put("g", "text"), add("g", "text")} {
		wantNoCut(t, "a part of a file too many", full, []impl.Raw{r}, 0, 1)
		wantNoCut(t, "a part of a file too many", full, []impl.Raw{r}, 0, 4)
	}
	for _, name := range []string{"", letters(13)} {
		wantNoCut(t, "a part of no right name", diskOf(), []impl.Raw{put(name, "text")}, 0, 1)
		wantNoCut(t, "a part of no right name", diskOf(), []impl.Raw{add(name, "text")}, 0, 1)
	}
	long := letters(20002)
	for _, r := range []impl.Raw{put("a", long), add("a", long)} {
		wantCut(t, diskOf("b", "1"), []impl.Raw{r}, 0, 20000, "a", letters(20000))
		wantNoCut(t, "a part of MaxText + 1", diskOf("b", "1"), []impl.Raw{r}, 0, 20001)
		wantNoCut(t, "a whole Text that is too long", diskOf("b", "1"), []impl.Raw{r}, 0, 20002)
		wantNoCut(t, "more than its Text", diskOf("b", "1"), []impl.Raw{r}, 0, 20003)
	}
	near := diskOf("a", letters(19998))
	wantCut(t, near, []impl.Raw{add("a", "xxxx")}, 0, 2, "a", letters(20000))
	wantNoCut(t, "a part that makes MaxText + 1", near, []impl.Raw{add("a", "xxxx")}, 0, 3)
}

// spareDisk has room behind its files, and marks in it.
func spareDisk() (impl.Disk, []impl.File) {
	room := make([]impl.File, 6)
	for at := range room {
		room[at] = impl.File{Name: fmt.Sprint("n", at), Text: strings.Repeat("t", at)}
	}
	return impl.Disk{Files: room[:3]}, room
}

func rawsToKeep() []impl.Raw {
	return append(make([]impl.Raw, 0, 9), add("n0", "more"), put("m", "first"), move("n1", "z"), drop("n2"), put("y", "last"))
}

func TestArgumentsOfDisksStay(t *testing.T) {
	d, room := spareDisk()
	list := rawsToKeep()
	spare := list[:cap(list)]
	wantRoom, wantSpare := slices.Clone(room), slices.Clone(spare)
	impl.DiskOk(d)
	impl.FileAt(d, "n0")
	for _, r := range list {
		impl.PutRaw(d, r)
	}
	impl.PutRaws(d, list)
	for whole := range len(list) + 1 {
		impl.CutRaws(d, list, whole, 0)
		impl.CutRaws(d, list, whole, 2)
	}
	if !slices.Equal(room, wantRoom) {
		t.Error("the files of an argument, or the room behind them, are changed")
	}
	if !slices.Equal(spare, wantSpare) {
		t.Error("the raw writes of an argument, or the room behind them, are changed")
	}
}

// wantNewDisk asks that no text of got lies in one of the arguments, and that
// what is written into got is not seen in them.
func wantNewDisk(t *testing.T, why string, got, d impl.Disk, list []impl.Raw) {
	t.Helper()
	for _, f := range got.Files {
		for _, own := range []string{f.Name, f.Text} {
			for _, g := range d.Files {
				if within(own, g.Name) || within(own, g.Text) {
					t.Errorf("%s: %q lies in the disk that was", why, own)
				}
			}
			for _, r := range list {
				if within(own, r.Name) || within(own, r.To) || within(own, r.Text) {
					t.Errorf("%s: %q lies in a raw write", why, own)
				}
			}
		}
	}
	was := slices.Clone(d.Files)
	for at := range got.Files {
		got.Files[at] = impl.File{Name: "overwritten"}
	}
	if !slices.Equal(d.Files, was) {
		t.Errorf("%s: the answer's list is the argument's", why)
	}
}

func TestAnswersOfDisksAreNewMemory(t *testing.T) {
	d := diskOf(strings.Clone("n0"), strings.Clone("zero"), strings.Clone("n1"), strings.Clone("one"), strings.Clone("n2"), strings.Clone("two"))
	list := rawsToKeep()
	for at, r := range list {
		list[at] = impl.Raw{Kind: r.Kind, Name: strings.Clone(r.Name), To: strings.Clone(r.To), Text: strings.Clone(r.Text)}
	}
	for _, f := range d.Files {
		if text, _ := impl.FileAt(d, f.Name); within(text, f.Text) {
			t.Errorf("FileAt(%q) lies in its argument", f.Name)
		}
	}
	for _, r := range append(list, add("n0", ""), add("new", "text"), move("n0", "n0")) {
		got, ok := impl.PutRaw(d, r)
		if !ok {
			t.Fatalf("PutRaw of Kind %d is refused", r.Kind)
		}
		wantNewDisk(t, "PutRaw", got, d, []impl.Raw{r})
	}
	for n := range len(list) + 1 {
		got, _ := impl.PutRaws(d, list[:n])
		wantNewDisk(t, "PutRaws", got, d, list)
		got, _ = impl.CutRaws(d, list, n, 0)
		wantNewDisk(t, "CutRaws", got, d, list)
	}
	for part := range len("first") + 1 {
		got, _ := impl.CutRaws(d, list, 1, part)
		wantNewDisk(t, "CutRaws at a part", got, d, list)
	}
}

func TestDisksAreToldTheSameEachTime(t *testing.T) {
	list := []impl.Raw{put("b", "1"), put("c", "2"), put("a", "3"), add("d", "4"), move("f10", "e")}
	want, _ := oneByOne(fullDisk(20), list)
	for range 50 {
		if got, n := impl.PutRaws(fullDisk(20), list); n != len(list) || !sameDisk(got, want) || !impl.DiskOk(got) {
			t.Fatalf("PutRaws = %s, %d; want %s", short(got), n, short(want))
		}
	}
}
