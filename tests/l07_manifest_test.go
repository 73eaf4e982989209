package tests

import (
	"math"
	"slices"
	"strconv"
	"strings"
	"sync"
	"testing"

	"loop.example/g00103/impl"
)

func numbers(list ...int) []int { return list }

// upTo has the n numbers from first on.
func upTo(first, n int) []int {
	var list []int
	for i := range n {
		list = append(list, first+i)
	}
	return list
}

func manifestOf(segs []int, next, base, term int, conf []int) impl.Manifest {
	return impl.Manifest{Segs: segs, Next: next, Base: base, BaseTerm: term, Conf: conf}
}

// ordinary is a right manifest, of which the tests change one field.
func ordinary() impl.Manifest { return manifestOf(numbers(0, 2), 3, 1, 1, numbers(1, 3)) }

func withSegs(next int, segs ...int) impl.Manifest {
	return manifestOf(segs, next, 1, 1, numbers(1, 3))
}

func withBase(base, term int) impl.Manifest {
	return manifestOf(numbers(0, 2), 3, base, term, numbers(1, 3))
}

func withConf(conf ...int) impl.Manifest { return manifestOf(numbers(0, 2), 3, 1, 1, conf) }

func sameManifest(a, b impl.Manifest) bool {
	return slices.Equal(a.Segs, b.Segs) && a.Next == b.Next && a.Base == b.Base && a.BaseTerm == b.BaseTerm && slices.Equal(a.Conf, b.Conf)
}

func noManifest(m impl.Manifest) bool { return sameManifest(m, impl.Manifest{}) }

// plainAscends holds each number against each one behind it.
func plainAscends(list []int) bool {
	ascends := true
	for i, n := range list {
		for _, behind := range list[i+1:] {
			ascends = ascends && n < behind
		}
	}
	return ascends
}

func plainConfOk(conf []int) bool {
	right := len(conf) != 0 && len(conf) < 5 && plainAscends(conf)
	for _, n := range conf {
		right = right && 0 < n && n < 5
	}
	return right
}

// plainManifestOk is the document's rule, word by word.
func plainManifestOk(m impl.Manifest) bool {
	right := len(m.Segs) != 0 && len(m.Segs) < 9 && plainAscends(m.Segs)
	for _, seg := range m.Segs {
		right = right && 0 <= seg && seg < 1000 && seg < m.Next
	}
	right = right && m.Next < 1001
	right = right && 0 <= m.Base && m.Base < 100001
	right = right && 0 <= m.BaseTerm && m.BaseTerm < 100001
	return right && plainConfOk(m.Conf)
}

func plainList(list []int) string {
	text := plainLength(len(list))
	for _, n := range list {
		text += plainLength(n)
	}
	return text
}

// plainInner is what ManifestText seals, also of manifests that are not right.
func plainInner(m impl.Manifest) string {
	return plainList(m.Segs) + plainLength(m.Next) + plainLength(m.Base) + plainLength(m.BaseTerm) + plainList(m.Conf)
}

func plainManifestText(m impl.Manifest) string { return plainSealed(plainInner(m)) }

// hasText tells whether all numbers of m are such as can be written.
func hasText(m impl.Manifest) bool {
	least := min(m.Next, m.Base, m.BaseTerm)
	for _, list := range [][]int{m.Segs, m.Conf} {
		for _, n := range list {
			least = min(least, n)
		}
	}
	return least >= 0
}

func (r *looseReader) list(most int) []int {
	var list []int
	for range min(r.number(), most) {
		list = append(list, r.number())
	}
	return list
}

// plainReadManifest guesses a manifest, and looks whether the text is that one's.
func plainReadManifest(text string) (impl.Manifest, bool) {
	r := looseReader{rest: text[:max(0, len(text)-4)]}
	m := impl.Manifest{Segs: r.list(9)}
	m.Next, m.Base, m.BaseTerm = r.number(), r.number(), r.number()
	m.Conf = r.list(5)
	if !plainManifestOk(m) || plainManifestText(m) != text {
		return impl.Manifest{}, false
	}
	return m, true
}

func wantManifest(t *testing.T, why string, text string) {
	t.Helper()
	m, ok := plainReadManifest(text)
	got, right := impl.ReadManifest(text)
	if right != ok || !sameManifest(got, m) {
		t.Errorf("%s: ReadManifest(%.60q of %d bytes) = %v, %v; want %v, %v", why, text, len(text), got, right, m, ok)
	}
}

func wantNoManifest(t *testing.T, why string, text string) {
	t.Helper()
	if got, ok := impl.ReadManifest(text); ok || !noManifest(got) {
		t.Errorf("%s: ReadManifest(%.60q of %d bytes) = %v, %v; want nothing, false", why, text, len(text), got, ok)
	}
}

func rightManifests() map[string]impl.Manifest {
	return map[string]impl.Manifest{
		"ordinary":                    ordinary(),
		"as a new shelf's":            manifestOf(numbers(0), 1, 0, 0, numbers(1, 2, 3)),
		"the least of all":            manifestOf(numbers(0), 1, 0, 0, numbers(1)),
		"the greatest of all":         manifestOf(upTo(992, 8), 1000, 100000, 100000, numbers(1, 2, 3, 4)),
		"one Seg":                     withSegs(8, 7),
		"two Segs":                    withSegs(3, 1, 2),
		"MaxSegs, one fewer":          withSegs(7, upTo(0, 7)...),
		"MaxSegs":                     withSegs(8, upTo(0, 8)...),
		"MaxSegs far apart":           withSegs(1000, 0, 1, 126, 127, 128, 255, 256, 999),
		"Seg 0":                       withSegs(1, 0),
		"Seg MaxSeg":                  withSegs(1000, 999),
		"Segs 0 and MaxSeg":           withSegs(1000, 0, 999),
		"Seg MaxSeg - 1 below MaxSeg": withSegs(999, 998),
		"Next far above the Segs":     withSegs(1000, 0),
		"Next one above the last":     withSegs(6, 3, 5),
		"Next two above the last":     withSegs(7, 3, 5),
		"Next MaxSeg":                 withSegs(999, 3),
		"Next 127":                    withSegs(127, 126),
		"Next 128":                    withSegs(128, 127),
		"Base 0":                      withBase(0, 1),
		"Base 127":                    withBase(127, 1),
		"Base 128":                    withBase(128, 1),
		"Base MaxIndex":               withBase(100000, 1),
		"Base MaxIndex - 1":           withBase(99999, 1),
		"BaseTerm 0":                  withBase(1, 0),
		"BaseTerm above Base":         withBase(0, 100000),
		"BaseTerm MaxTerm":            withBase(1, 100000),
		"BaseTerm MaxTerm - 1":        withBase(1, 99999),
		"a Conf of 1":                 withConf(1),
		"a Conf of MaxNodes alone":    withConf(4),
		"a Conf of two":               withConf(2, 4),
		"a Conf of three":             withConf(1, 2, 4),
		"a Conf of MaxNodes numbers":  withConf(1, 2, 3, 4),
	}
}

func wrongManifests() map[string]impl.Manifest {
	const least, most = math.MinInt, math.MaxInt
	return map[string]impl.Manifest{
		"zero":                          {},
		"no Segs":                       withSegs(3),
		"Segs of an empty list":         manifestOf([]int{}, 3, 1, 1, numbers(1, 3)),
		"no Segs and no Next":           withSegs(0),
		"a Seg too many":                withSegs(9, upTo(0, 9)...),
		"a Seg too many, Next the last": withSegs(8, upTo(0, 9)...),
		"a hundred Segs":                withSegs(100, upTo(0, 100)...),
		"Seg -1":                        withSegs(3, -1),
		"Seg -1 ahead":                  withSegs(3, -1, 0),
		"Seg MaxSeg + 1":                withSegs(1001, 1000),
		"Seg MaxSeg + 1, Next it":       withSegs(1000, 1000),
		"Seg MaxSeg + 1 behind":         withSegs(1000, 0, 1000),
		"Seg the least int":             withSegs(3, least),
		"Seg the greatest int":          withSegs(1000, most),
		"both ends of int":              withSegs(1000, most, least),
		"the greatest int, then 0":      withSegs(1000, most, 0),
		"Next the last Seg":             withSegs(5, 3, 5),
		"Next the only Seg":             withSegs(7, 7),
		"Next below the last Seg":       withSegs(4, 3, 5),
		"Next the first Seg":            withSegs(3, 3, 5),
		"Next 0 and Seg 0":              withSegs(0, 0),
		"Next -1":                       withSegs(-1, 0),
		"Next MaxSeg, as the last":      withSegs(999, 999),
		"Next MaxSeg + 2":               withSegs(1001, 0),
		"Next MaxSeg + 2, Seg MaxSeg":   withSegs(1001, 999),
		"Next far too great":            withSegs(1000000000, 0),
		"Next the greatest int":         withSegs(most, 0),
		"Next the least int":            withSegs(least, 0),
		"Next one above the least int":  withSegs(least+1, 0),
		"two Segs alike":                withSegs(9, 2, 2),
		"two Segs 0":                    withSegs(9, 0, 0),
		"two Segs MaxSeg":               withSegs(1000, 999, 999),
		"the last two Segs alike":       withSegs(9, 1, 2, 2),
		"the first two Segs alike":      withSegs(9, 1, 1, 2),
		"Segs alike at a distance":      withSegs(9, 1, 2, 1),
		"Segs that fall":                withSegs(9, 2, 1),
		"Segs that fall at last":        withSegs(9, 1, 3, 2),
		"Segs that fall at first":       withSegs(9, 2, 1, 3),
		"MaxSegs that fall":             withSegs(9, 7, 6, 5, 4, 3, 2, 1, 0),
		"Base -1":                       withBase(-1, 1),
		"Base MaxIndex + 1":             withBase(100001, 1),
		"Base the least int":            withBase(least, 1),
		"Base the greatest int":         withBase(most, 1),
		"BaseTerm -1":                   withBase(1, -1),
		"BaseTerm MaxTerm + 1":          withBase(1, 100001),
		"BaseTerm the least int":        withBase(1, least),
		"BaseTerm the greatest int":     withBase(1, most),
		"no Conf":                       withConf(),
		"a Conf of an empty list":       withConf([]int{}...),
		"a Conf of 0":                   withConf(0),
		"a Conf from 0 on":              withConf(0, 1),
		"a Conf of -1":                  withConf(-1),
		"a Conf of MaxNodes + 1":        withConf(5),
		"a Conf up to MaxNodes + 1":     withConf(1, 5),
		"a Conf of a number too many":   withConf(1, 2, 3, 4, 5),
		"a Conf of five from 0 on":      withConf(0, 1, 2, 3, 4),
		"a Conf of five, two alike":     withConf(1, 2, 3, 4, 4),
		"a Conf that falls":             withConf(3, 1),
		"a Conf that falls at last":     withConf(1, 3, 2),
		"a Conf of two alike":           withConf(2, 2),
		"a Conf of two alike behind":    withConf(1, 2, 2),
		"a Conf of the least int":       withConf(least),
		"a Conf of the greatest int":    withConf(most),
		"a Conf of both ends of int":    withConf(most, least),
	}
}

func TestManifestLimits(t *testing.T) {
	if impl.MaxNodes != 4 || impl.MaxSegs != 8 || impl.MaxSeg != 999 || impl.MaxTerm != 100000 {
		t.Error("a limit of manifests is not the document's")
	}
}

// listsOf are all lists of up to most numbers, each of which is one of these.
func listsOf(most int, each ...int) [][]int {
	all := [][]int{nil}
	last := all
	for range most {
		var more [][]int
		for _, list := range last {
			for _, n := range each {
				more = append(more, append(slices.Clone(list), n))
			}
		}
		all = append(all, more...)
		last = more
	}
	return all
}

func TestConfOk(t *testing.T) {
	right := 0
	lists := listsOf(6, 0, 1, 2, 3, 4, 5)
	lists = append(lists, listsOf(3, math.MinInt, -1, 1, 4, math.MaxInt)...)
	lists = append(lists, []int{}, upTo(1, 100), upTo(-100, 200))
	for _, conf := range lists {
		ok := impl.ConfOk(conf)
		if ok != plainConfOk(conf) {
			t.Errorf("ConfOk(%v) = %v", conf, ok)
		}
		if ok {
			right++
		}
	}
	// Each set of the four nodes but the empty one; three of them come again.
	if right != 15+3 {
		t.Errorf("%d confs are right", right)
	}
}

func TestManifestOk(t *testing.T) {
	for why, m := range rightManifests() {
		if !plainManifestOk(m) || !impl.ManifestOk(m) {
			t.Errorf("%s: ManifestOk is false", why)
		}
	}
	for why, m := range wrongManifests() {
		if plainManifestOk(m) || impl.ManifestOk(m) {
			t.Errorf("%s: ManifestOk is true", why)
		}
	}
}

func TestManifestOkAtEachNumber(t *testing.T) {
	around := numbers(math.MinInt, -1000000, -2, -1, 0, 1, 2, 998, 999, 1000, 1001, 1002, 99999, 100000, 100001, 1000000000, math.MaxInt)
	for _, n := range around {
		for _, other := range around {
			for _, m := range []impl.Manifest{withSegs(other, n), withSegs(1000, n, other), withBase(n, other), withConf(n, other)} {
				if ok := impl.ManifestOk(m); ok != plainManifestOk(m) {
					t.Errorf("ManifestOk(%v) = %v", m, ok)
				}
			}
		}
	}
}

func TestManifestBytes(t *testing.T) {
	for _, c := range []struct {
		manifest impl.Manifest
		inner    string
	}{
		{ordinary(), "\x02\x00\x02\x03\x01\x01\x02\x01\x03"},
		{manifestOf(numbers(0), 1, 0, 0, numbers(1)), "\x01\x00\x01\x00\x00\x01\x01"},
		{manifestOf(numbers(7), 9, 5, 6, numbers(2, 4)), "\x01\x07\x09\x05\x06\x02\x02\x04"},
		{manifestOf(numbers(127, 128, 999), 1000, 100000, 300, numbers(4)), "\x03\x7f\x80\x01\xe7\x07\xe8\x07\xa0\x8d\x06\xac\x02\x01\x04"},
		{manifestOf(upTo(0, 8), 8, 1, 100000, upTo(1, 4)), "\x08\x00\x01\x02\x03\x04\x05\x06\x07\x08\x01\xa0\x8d\x06\x04\x01\x02\x03\x04"},
	} {
		want := plainSealed(c.inner)
		if text, ok := impl.ManifestText(c.manifest); !ok || text != want {
			t.Errorf("ManifestText(%v) = %q, %v; want %q", c.manifest, text, ok, want)
		}
		if m, ok := impl.ReadManifest(want); !ok || !sameManifest(m, c.manifest) {
			t.Errorf("ReadManifest(%q) = %v, %v; want %v", want, m, ok, c.manifest)
		}
		if sealed, ok := impl.Sealed(c.inner); !ok || sealed != want {
			t.Errorf("Sealed(%q) = %q, %v; want %q", c.inner, sealed, ok, want)
		}
	}
}

func manifestComesBack(t *testing.T, why string, m impl.Manifest) {
	t.Helper()
	text, ok := impl.ManifestText(m)
	if !ok || text != plainManifestText(m) {
		t.Errorf("%s: ManifestText(%v) = %.60q, %v; want %.60q", why, m, text, ok, plainManifestText(m))
	}
	if got, ok := impl.ReadManifest(text); !ok || !sameManifest(got, m) {
		t.Errorf("%s: ReadManifest(%.60q) = %v, %v; want %v", why, text, got, ok, m)
	}
}

func TestManifestsComeBack(t *testing.T) {
	for why, m := range rightManifests() {
		manifestComesBack(t, why, m)
	}
	for seg := range 1000 {
		manifestComesBack(t, "a Seg", withSegs(seg+1, seg))
		manifestComesBack(t, "a Next", withSegs(seg+1, 0))
	}
	for n := 0; n <= 100000; n += 1 + n/60 {
		manifestComesBack(t, "a Base", withBase(n, 100000-n))
	}
	for _, conf := range listsOf(4, 1, 2, 3, 4) {
		if plainConfOk(conf) {
			manifestComesBack(t, "a Conf", withConf(conf...))
		}
	}
}

// Each set of the Segs 0 .. 9, as far as there are 1 to MaxSegs in it.
func TestManifestsOfEachSetOfSegs(t *testing.T) {
	right := 0
	for set := range 1024 {
		var segs []int
		for seg := range 10 {
			if set>>seg%2 == 1 {
				segs = append(segs, seg)
			}
		}
		m := withSegs(10, segs...)
		if impl.ManifestOk(m) {
			right++
			manifestComesBack(t, "a set", m)
		}
		wantManifest(t, "a set", plainManifestText(m))
	}
	if right != 1024-1-10-1 {
		t.Errorf("%d sets of Segs are right", right)
	}
}

func TestWrongManifestsHaveNoText(t *testing.T) {
	for why, m := range wrongManifests() {
		if text, ok := impl.ManifestText(m); ok || text != "" {
			t.Errorf("%s: ManifestText = %.60q, %v; want nothing, false", why, text, ok)
		}
	}
}

// What a wrong manifest would be written as is no manifest's text, sealed as
// it is.
func TestTextsOfWrongManifests(t *testing.T) {
	for why, m := range wrongManifests() {
		if hasText(m) {
			wantNoManifest(t, why, plainManifestText(m))
		}
	}
	inner := "\x02\x00\x02\x03\x01\x01\x02\x01\x03"
	for at := range len(inner) {
		for _, n := range []int{999, 1000, 1001, 100000} {
			wantManifest(t, "a number put in", plainSealed(inner[:at]+plainLength(n)+inner[at+1:]))
		}
		for _, n := range []int{100001, 1000000000, 1000000001} {
			wantNoManifest(t, "a number too great", plainSealed(inner[:at]+plainLength(n)+inner[at+1:]))
		}
	}
}

func TestManifestTextWithAByteTurned(t *testing.T) {
	for why, m := range rightManifests() {
		text := plainManifestText(m)
		for at := range len(text) {
			for by := 1; by < 256; by++ {
				wantNoManifest(t, why+", a byte turned", turned(text, at, by))
			}
		}
	}
}

// A byte that is turned ahead of the seal may leave another manifest.
func TestManifestTextSealedAnew(t *testing.T) {
	for _, m := range []impl.Manifest{ordinary(), manifestOf(numbers(0), 1, 0, 0, numbers(1)), manifestOf(upTo(992, 8), 1000, 100000, 300, upTo(1, 4))} {
		inner := plainInner(m)
		for at := range len(inner) {
			for by := range 256 {
				wantManifest(t, "turned and sealed", plainSealed(turned(inner, at, by)))
			}
		}
	}
}

func TestManifestTextCutAtEveryByte(t *testing.T) {
	for why, m := range rightManifests() {
		text, inner := plainManifestText(m), plainInner(m)
		for at := range len(text) {
			wantNoManifest(t, why+", cut", text[:at])
			wantNoManifest(t, why+", without its beginning", text[at+1:])
		}
		for at := range len(inner) {
			wantNoManifest(t, why+", too few bytes, sealed", plainSealed(inner[:at]))
			wantManifest(t, why+", without its beginning, sealed", plainSealed(inner[at+1:]))
			wantManifest(t, why+", without one byte, sealed", plainSealed(inner[:at]+inner[at+1:]))
		}
	}
}

func TestBytesBehindAManifest(t *testing.T) {
	for why, m := range rightManifests() {
		text, inner := plainManifestText(m), plainInner(m)
		for more := range 256 {
			b := string([]byte{byte(more)})
			wantNoManifest(t, why+", a byte behind", text+b)
			wantNoManifest(t, why+", a byte ahead", b+text)
			wantNoManifest(t, why+", a byte behind, sealed", plainSealed(inner+b))
		}
		wantNoManifest(t, why+", twice", text+text)
		wantNoManifest(t, why+", twice, sealed", plainSealed(inner+inner))
		wantNoManifest(t, why+", sealed twice", plainSealed(text))
	}
	inner := plainInner(ordinary())
	for _, size := range []int{100, 20000 - len(inner), 20001 - len(inner), 100000} {
		wantNoManifest(t, "much behind", plainSealed(inner+letters(size)))
		wantNoManifest(t, "much behind, of noughts", plainSealed(inner+strings.Repeat("\x00", size)))
	}
}

func TestManifestNumbersInALongerForm(t *testing.T) {
	inner := plainInner(ordinary())
	for at := range len(inner) {
		wantNoManifest(t, "a longer form", plainSealed(longer(inner, at)))
	}
	wantNoManifest(t, "a longer form of Seg 128", plainSealed("\x01\x80\x81\x00\xe8\x07\x01\x01\x01\x01"))
	wantNoManifest(t, "a longer form of Base", plainSealed("\x01\x00\x01\xa0\x8d\x86\x00\x01\x01\x01"))
	wantNoManifest(t, "a far longer form", plainSealed("\x81\x80\x80\x80\x80\x00\x00\x01\x00\x00\x01\x01"))
	for at := range len(inner) {
		wantNoManifest(t, "a number without an end", plainSealed(inner[:at]+strings.Repeat("\x80", 50)))
		wantNoManifest(t, "a number without an end, of 255", plainSealed(inner[:at]+strings.Repeat("\xff", 50)))
	}
}

func TestListsThatAreNotAsLongAsTold(t *testing.T) {
	for n := 1; n <= 8; n++ {
		m := withSegs(8, upTo(0, n)...)
		behind := plainInner(m)[1:]
		for _, told := range []int{0, n - 1, n + 1, 7, 8, 9, 127, 128, 1000, 1000000000} {
			wantManifest(t, "so many Segs are told", plainSealed(plainLength(told)+behind))
		}
	}
	for n := 1; n <= 4; n++ {
		ahead := plainInner(withConf(upTo(1, n)...))
		ahead = ahead[:len(ahead)-n-1]
		for _, told := range []int{0, n - 1, n + 1, 4, 5, 127, 128, 1000, 1000000000} {
			if told != n {
				wantNoManifest(t, "so many of Conf are told", plainSealed(ahead+plainLength(told)+plainList(upTo(1, n))[1:]))
			}
		}
	}
}

func TestTextsOfNoManifest(t *testing.T) {
	inner := plainInner(ordinary())
	seal := plainSeal(inner)
	wantNoManifest(t, "an empty text", "")
	wantNoManifest(t, "an empty text, sealed", plainSealed(""))
	wantNoManifest(t, "not sealed", inner)
	wantNoManifest(t, "the seal alone", seal)
	wantNoManifest(t, "the seal ahead", seal+inner)
	wantNoManifest(t, "the seal the other way round", inner+string([]byte{seal[3], seal[2], seal[1], seal[0]}))
	wantNoManifest(t, "a seal of noughts", inner+"\x00\x00\x00\x00")
	wantNoManifest(t, "another one's seal", inner+plainSeal(plainInner(withBase(1, 2))))
	wantNoManifest(t, "a frame", plainFrame(inner))
	wantNoManifest(t, "a frame, sealed", plainSealed(plainFrame(inner)))
	wantNoManifest(t, "words", "no manifest at all")
	wantNoManifest(t, "words, sealed", plainSealed("no manifest at all"))
	wantNoManifest(t, "a batch, sealed", plainSealed(plainBatchText(batchOf(2, set("a", "x")))))
	for _, size := range []int{1, 4, 11, 100, 20000, 20001, 100000} {
		for b := range 256 {
			if size < 20000 || b%51 == 0 {
				same := strings.Repeat(string([]byte{byte(b)}), size)
				wantNoManifest(t, "one byte repeated", same)
				wantNoManifest(t, "one byte repeated, sealed", plainSealed(same))
			}
		}
	}
}

func TestManifestsOfEveryShortText(t *testing.T) {
	right := 0
	texts := []string{""}
	for range 8 {
		var more []string
		for _, text := range texts {
			for _, b := range []byte{0, 1, 2, 128} {
				more = append(more, text+string([]byte{b}))
			}
		}
		for _, text := range more {
			wantManifest(t, "a short text", plainSealed(text))
			if _, ok := impl.ReadManifest(plainSealed(text)); ok {
				right++
			}
		}
		texts = more
	}
	if right < 50 {
		t.Errorf("%d of the short texts are manifests", right)
	}
}

func TestSegName(t *testing.T) {
	for seg, name := range map[int]string{
		-1: "", 0: "g0", 1: "g1", 7: "g7", 9: "g9", 10: "g10", 99: "g99", 100: "g100", 998: "g998", 999: "g999",
		1000: "", 1001: "", -999: "", 1000000000: "", math.MaxInt: "", math.MinInt: "",
	} {
		if got := impl.SegName(seg); got != name {
			t.Errorf("SegName(%d) = %q; want %q", seg, got, name)
		}
	}
	for seg := -20; seg < 1020; seg++ {
		want := "g" + strconv.Itoa(seg)
		if seg < 0 || seg > 999 {
			want = ""
		}
		if got := impl.SegName(seg); got != want {
			t.Errorf("SegName(%d) = %q; want %q", seg, got, want)
		}
	}
}

// A segment's name is a file's, so that a disk with it is right.
func TestSegNamesAreNamesOfFiles(t *testing.T) {
	for seg := range 1000 {
		if d := diskOf(impl.SegName(seg), "text"); !impl.DiskOk(d) {
			t.Errorf("SegName(%d) = %q is no file's name", seg, impl.SegName(seg))
		}
	}
}

// drawnSet has up to most numbers from least up to below end, ascending.
func drawnSet(d *drawing, most, least, end int) []int {
	var list []int
	for range d.below(most) + 1 {
		list = append(list, least+d.below(end-least))
	}
	slices.Sort(list)
	return slices.Compact(list)
}

func drawnManifest(d *drawing) impl.Manifest {
	segs := drawnSet(d, 8, 0, []int{8, 140, 1000}[d.below(3)])
	last := segs[len(segs)-1]
	base := d.below([]int{2, 300, 100001}[d.below(3)])
	term := d.below([]int{2, 300, 100001}[d.below(3)])
	return manifestOf(segs, last+1+d.below(1000-last), base, term, drawnSet(d, 4, 1, 5))
}

func TestDrawnManifests(t *testing.T) {
	d := &drawing{state: 9}
	for range 5000 {
		m := drawnManifest(d)
		if !plainManifestOk(m) || !impl.ManifestOk(m) {
			t.Errorf("ManifestOk(%v) is false", m)
		}
		manifestComesBack(t, "a drawn one", m)
	}
}

func TestDrawnManifestTextsWithAByteTurned(t *testing.T) {
	d := &drawing{state: 10}
	for i := range 1000 {
		text := plainManifestText(drawnManifest(d))
		for at := range len(text) {
			if i >= 250 {
				wantNoManifest(t, "a byte turned", turned(text, at, 1+d.below(255)))
				continue
			}
			for by := 1; by < 256; by++ {
				wantNoManifest(t, "a byte turned", turned(text, at, by))
			}
		}
	}
}

// spoiledManifest is m with one number another one, or one more or less, which
// may leave a right one.
func spoiledManifest(d *drawing, m impl.Manifest) impl.Manifest {
	odd := []int{-1, 0, 1, 4, 5, 8, 999, 1000, 1001, 100000, 100001}[d.below(11)]
	s, c := d.below(len(m.Segs)), d.below(len(m.Conf))
	m.Segs, m.Conf = slices.Clone(m.Segs), slices.Clone(m.Conf)
	switch d.below(8) {
	case 0:
		m.Segs[s] = odd
	case 1:
		m.Conf[c] = odd
	case 2:
		m.Next = m.Segs[len(m.Segs)-1] + d.below(2)
	case 3:
		m.Next = odd
	case 4:
		m.Base = odd
	case 5:
		m.BaseTerm = odd
	case 6:
		m.Segs = slices.Insert(m.Segs, s, m.Segs[s]+d.below(3)-1)
	case 7:
		m.Conf = slices.Insert(m.Conf, c, m.Conf[c]+d.below(3)-1)
	}
	return m
}

func TestDrawnManifestsSpoiled(t *testing.T) {
	d := &drawing{state: 11}
	right := 0
	for range 10000 {
		m := spoiledManifest(d, drawnManifest(d))
		ok := impl.ManifestOk(m)
		if ok != plainManifestOk(m) {
			t.Errorf("ManifestOk(%v) = %v", m, ok)
		}
		if ok {
			right++
			manifestComesBack(t, "spoiled, but right", m)
		} else if text, ok := impl.ManifestText(m); ok || text != "" {
			t.Errorf("ManifestText(%v) = %.60q, %v", m, text, ok)
		}
		if hasText(m) {
			wantManifest(t, "spoiled", plainManifestText(m))
		}
	}
	if right < 1000 || right > 9000 {
		t.Errorf("%d of the spoiled ones are right", right)
	}
}

func TestDrawnManifestTexts(t *testing.T) {
	d := &drawing{state: 12}
	for range 10000 {
		inner := plainInner(drawnManifest(d))
		at := d.below(len(inner))
		switch d.below(4) {
		case 0:
			inner = turned(inner, at, d.below(256))
		case 1:
			inner = inner[:at] + inner[min(at+1+d.below(3), len(inner)):]
		case 2:
			inner = inner[:at] + d.bytes(3) + inner[at:]
		case 3:
			inner = inner[:at+1]
		}
		wantManifest(t, "a drawn text", plainSealed(inner))
	}
}

func TestArgumentsOfManifestsStay(t *testing.T) {
	segs := numbers(0, 2, 5, 77, 88)
	conf := numbers(1, 3, 4, 77, 88)
	keptSegs, keptConf := slices.Clone(segs), slices.Clone(conf)
	for n := range 6 {
		for _, next := range []int{6, 1000, 0, -1} {
			m := manifestOf(segs[:n], next, 1, 1, conf[:min(n, 3)])
			impl.ManifestOk(m)
			impl.ManifestText(m)
			m.Conf = conf[:n]
			impl.ManifestOk(m)
			impl.ManifestText(m)
		}
		impl.ConfOk(conf[:n])
		impl.ConfOk(segs[:n])
	}
	if !slices.Equal(segs, keptSegs) || !slices.Equal(conf, keptConf) {
		t.Errorf("an argument is another now: %v, %v", segs, conf)
	}
}

// overwrite writes into a list and into all the room behind it.
func overwrite(list []int) {
	for i := range list[:cap(list)] {
		list[:cap(list)][i] = -7
	}
}

func TestAnswersOfManifestsAreNewMemory(t *testing.T) {
	for why, m := range rightManifests() {
		text := plainManifestText(m)
		first, _ := impl.ReadManifest(text)
		second, _ := impl.ReadManifest(text)
		overwrite(first.Segs)
		if !slices.Equal(first.Conf, m.Conf) {
			t.Errorf("%s: Segs and Conf of one answer share memory", why)
		}
		overwrite(first.Conf)
		if !sameManifest(second, m) || text != plainManifestText(m) {
			t.Errorf("%s: two answers share memory", why)
		}
		manifestComesBack(t, why+", read again", m)
	}
	m := ordinary()
	text, _ := impl.ManifestText(m)
	kept := strings.Clone(text)
	overwrite(m.Segs)
	overwrite(m.Conf)
	if text != kept {
		t.Error("ManifestText answers memory of its argument")
	}
}

func TestManyManifestsAtOnce(t *testing.T) {
	var all sync.WaitGroup
	m := withSegs(1000, 0, 1, 126, 127, 128, 255, 256, 999)
	text := plainManifestText(m)
	for i := range 8 {
		all.Add(1)
		go func() {
			defer all.Done()
			for by := 1; by < 50; by++ {
				manifestComesBack(t, "at once", m)
				wantNoManifest(t, "at once, a byte turned", turned(text, i, by))
			}
		}()
	}
	all.Wait()
}
