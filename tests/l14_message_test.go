package tests

import (
	"fmt"
	"math"
	"slices"
	"strings"
	"sync"
	"testing"

	"loop.example/g00103/impl"
)

func sameMessage(a, b impl.Message) bool {
	return a.Kind == b.Kind && a.From == b.From && a.To == b.To &&
		a.Term == b.Term && a.Index == b.Index && a.LogTerm == b.LogTerm && a.Commit == b.Commit &&
		a.Ok == b.Ok && a.Last == b.Last && a.Data == b.Data &&
		slices.Equal(a.Entries, b.Entries) && slices.Equal(a.Conf, b.Conf)
}

func noMessage(m impl.Message) bool { return sameMessage(m, impl.Message{}) }

// shortMessage tells a message without the whole of its long texts.
func shortMessage(m impl.Message) string {
	head := fmt.Sprint(m.Kind, m.From, m.To, m.Term, m.Index, m.LogTerm, m.Commit, m.Ok, m.Last)
	list := fmt.Sprintf("%d entries", len(m.Entries))
	for _, e := range m.Entries[:min(5, len(m.Entries))] {
		list += " " + shortEntry(e)
	}
	return fmt.Sprintf("{%s; %s; conf %v; %.60q of %d bytes}", head, list, m.Conf[:min(9, len(m.Conf))], m.Data, len(m.Data))
}

// messageOf has a Kind, and ordinary numbers.
func messageOf(kind int) impl.Message {
	return impl.Message{Kind: kind, From: 1, To: 2, Term: 5, Index: 7, LogTerm: 2, Commit: 3}
}

// appendOf is an AskAppend from the term 2 on, in the term 5.
func appendOf(list ...impl.Entry) impl.Message {
	m := messageOf(3)
	m.Entries = list
	return m
}

func shipOf(conf []int, data string, last bool) impl.Message {
	m := messageOf(5)
	m.Conf, m.Data, m.Last = conf, data, last
	return m
}

// ofEachKind are ordinary messages, by Kind.
func ofEachKind() map[int]impl.Message {
	return map[int]impl.Message{
		1: messageOf(1),
		2: messageOf(2),
		3: appendOf(noneOf(2), confOf(3, "\x01\x02"), commandOf(5, "x")),
		4: messageOf(4),
		5: shipOf(numbers(1, 3), "abc", true),
		6: messageOf(6),
	}
}

// messageWith is the message behind a change.
func messageWith(m impl.Message, change func(m *impl.Message)) impl.Message {
	change(&m)
	return m
}

// plainMessageOk is the document's rule, word by word.
func plainMessageOk(m impl.Message) bool {
	if !slices.Contains(numbers(1, 2, 3, 4, 5, 6), m.Kind) {
		return false
	}
	nodes := numbers(1, 2, 3, 4)
	if !slices.Contains(nodes, m.From) || !slices.Contains(nodes, m.To) || m.From == m.To {
		return false
	}
	for _, n := range numbers(m.Term, m.LogTerm, m.Index, m.Commit) {
		if n < 0 || n > 100000 {
			return false
		}
	}
	if len(m.Entries) > 4 || m.Kind != 3 && len(m.Entries) > 0 {
		return false
	}
	for at, e := range m.Entries {
		if !plainEntryOk(e) || e.Term < m.LogTerm || e.Term > m.Term {
			return false
		}
		if at > 0 && e.Term < m.Entries[at-1].Term {
			return false
		}
	}
	if m.Kind == 5 {
		return plainConfOk(m.Conf) && len(m.Data) < 61
	}
	return len(m.Conf) == 0 && len(m.Data) == 0 && !m.Last
}

func plainFlag(flag bool) string { return map[bool]string{true: "\x01", false: "\x00"}[flag] }

// plainHead are a message's bytes ahead of its entries.
func plainHead(m impl.Message) string {
	head := string([]byte{byte(m.Kind), byte(m.From), byte(m.To)})
	for _, n := range numbers(m.Term, m.Index, m.LogTerm, m.Commit) {
		head += plainLength(n)
	}
	return head + plainFlag(m.Ok) + plainFlag(m.Last)
}

// plainBytes are those of a message whose lists are told by these texts.
func plainBytes(m impl.Message, entries []string, conf string) string {
	text := plainHead(m) + plainLength(len(entries))
	for _, e := range entries {
		text += plainShort(e)
	}
	return text + plainShort(conf) + plainShort(m.Data)
}

func entryTexts(list []impl.Entry) []string {
	var texts []string
	for _, e := range list {
		texts = append(texts, plainEntryText(1, e))
	}
	return texts
}

func bytesOfConf(conf []int) string {
	text := ""
	for _, n := range conf {
		text += string([]byte{byte(n)})
	}
	return text
}

// plainEncode is the rule of Encode, also of messages that are not right.
func plainEncode(m impl.Message) string {
	return plainBytes(m, entryTexts(m.Entries), bytesOfConf(m.Conf))
}

// messageHasBytes tells whether the numbers are such as can be written.
func messageHasBytes(m impl.Message) bool {
	for _, e := range m.Entries {
		if !entryHasText(1, e) {
			return false
		}
	}
	small := append(numbers(m.Kind, m.From, m.To), m.Conf...)
	return min(slices.Min(small), m.Term, m.Index, m.LogTerm, m.Commit) >= 0 && slices.Max(small) < 256
}

// plainDecode guesses a message, and looks whether the text is that one's.
func plainDecode(text string) (impl.Message, bool) {
	r := looseReader{rest: text}
	one := func() int { return int((r.some(1) + "\x00")[0]) }
	m := impl.Message{Kind: one(), From: one(), To: one()}
	m.Term, m.Index, m.LogTerm, m.Commit = r.number(), r.number(), r.number(), r.number()
	m.Ok, m.Last = one() == 1, one() == 1
	for range min(r.number(), 5) {
		_, e, _ := plainReadEntry(r.some(r.number()))
		m.Entries = append(m.Entries, e)
	}
	for _, b := range []byte(r.some(r.number())) {
		m.Conf = append(m.Conf, int(b))
	}
	m.Data = r.some(r.number())
	if !plainMessageOk(m) || plainEncode(m) != text {
		return impl.Message{}, false
	}
	return m, true
}

// wantMessage holds MessageOk and Encode against the plain rules, and Decode
// against the message itself.
func wantMessage(t *testing.T, why string, m impl.Message, ok bool) {
	t.Helper()
	if plainMessageOk(m) != ok {
		t.Errorf("%s: the plain rule tells %v of %s", why, !ok, shortMessage(m))
	}
	if got := impl.MessageOk(m); got != ok {
		t.Errorf("%s: MessageOk(%s) = %v", why, shortMessage(m), got)
	}
	text, right := impl.Encode(m)
	if !ok {
		if right || text != "" {
			t.Errorf("%s: Encode(%s) = %.60q, %v; want nothing, false", why, shortMessage(m), text, right)
		}
		if messageHasBytes(m) {
			wantNoDecode(t, why, plainEncode(m))
		}
		return
	}
	if want := plainEncode(m); !right || text != want {
		t.Errorf("%s: Encode(%s) = %.60q, %v; want %.60q", why, shortMessage(m), text, right, want)
	}
	if again, right := impl.Decode(text); !right || !sameMessage(again, m) {
		t.Errorf("%s: Decode(%.60q) = %s, %v; want %s", why, text, shortMessage(again), right, shortMessage(m))
	}
}

func wantPlainMessage(t *testing.T, why string, m impl.Message) bool {
	t.Helper()
	ok := plainMessageOk(m)
	wantMessage(t, why, m, ok)
	return ok
}

func wantNoDecode(t *testing.T, why string, text string) {
	t.Helper()
	if m, ok := impl.Decode(text); ok || !noMessage(m) {
		t.Errorf("%s: Decode(%.60q of %d bytes) = %s, %v; want nothing, false", why, text, len(text), shortMessage(m), ok)
	}
}

// wantDecode holds a text against the plain rule: it is none, or just the bytes
// of the message that is told.
func wantDecode(t *testing.T, why string, text string) bool {
	t.Helper()
	want, ok := plainDecode(text)
	m, right := impl.Decode(text)
	if right != ok || !sameMessage(m, want) {
		t.Errorf("%s: Decode(%.60q of %d bytes) = %s, %v; want %s, %v", why, text, len(text), shortMessage(m), right, shortMessage(want), ok)
	}
	if again, told := impl.Encode(m); right && (!told || again != text) {
		t.Errorf("%s: Encode of Decode(%.60q of %d bytes) = %.60q, %v", why, text, len(text), again, told)
	}
	return right
}

func rightMessages() map[string]impl.Message {
	most := impl.Message{From: 4, To: 3, Term: 100000, Index: 100000, LogTerm: 100000, Commit: 100000, Ok: true}
	long := slices.Repeat(entries(commandOf(100000, strings.Repeat("\xff", 120))), 4)
	all := map[string]impl.Message{
		"no entries":                appendOf(),
		"one entry":                 appendOf(commandOf(3, "x")),
		"MaxSend entries":           appendOf(noneOf(2), noneOf(3), confOf(3, "\x02"), commandOf(4, "")),
		"entries of LogTerm":        appendOf(noneOf(2), noneOf(2), noneOf(2), noneOf(2)),
		"entries of Term":           appendOf(noneOf(5), noneOf(5), noneOf(5), noneOf(5)),
		"entries of both":           appendOf(noneOf(2), noneOf(2), noneOf(5), noneOf(5)),
		"entries of the term 0":     {Kind: 3, From: 1, To: 2, Entries: entries(noneOf(0), commandOf(0, "\x00"))},
		"long entries":              messageWith(most, func(m *impl.Message) { m.Kind, m.Entries = 3, long }),
		"a command of its own sort": appendOf(commandOf(3, "E\x01\x03\x03x"), commandOf(3, "\x00\x00")),
		"no Data":                   shipOf(numbers(2), "", false),
		"no Data, Last":             shipOf(numbers(1, 2, 3, 4), "", true),
		"a byte 0":                  shipOf(numbers(4), "\x00", false),
		"Data of a conf":            shipOf(numbers(1, 2), "\x01\x02", false),
		"ChunkSize - 1 bytes":       shipOf(numbers(1, 2, 3), letters(59), false),
		"ChunkSize bytes":           shipOf(numbers(1, 2, 3), letters(60), true),
		"ChunkSize bytes 255":       shipOf(numbers(1, 2, 3), strings.Repeat("\xff", 60), false),
	}
	for kind, m := range ofEachKind() {
		name := fmt.Sprint("Kind ", kind)
		all[name] = m
		all[name+", Ok"] = messageWith(m, func(m *impl.Message) { m.Ok = true })
		all[name+", the other way"] = messageWith(m, func(m *impl.Message) { m.From, m.To = 3, 1 })
		small := impl.Message{Kind: kind, From: 1, To: 2, Conf: m.Conf}
		all[name+", all else zero"] = small
		all[name+", numbers of two bytes"] = messageWith(small, func(m *impl.Message) {
			m.Term, m.Index, m.LogTerm, m.Commit = 300, 128, 129, 16383
		})
		all[name+", the greatest"] = messageWith(most, func(m *impl.Message) { m.Kind, m.Conf = kind, small.Conf })
		// Terms are held against those of entries alone.
		all[name+", LogTerm above Term"] = messageWith(small, func(m *impl.Message) { m.Term, m.LogTerm = 4, 100000 })
		all[name+", Commit above Index"] = messageWith(m, func(m *impl.Message) { m.Index, m.Commit = 0, 100000 })
	}
	return all
}

func TestMessageConstants(t *testing.T) {
	if impl.MaxSend != 4 || impl.ChunkSize != 60 {
		t.Error("a limit of messages is not the document's")
	}
	if impl.AskVote != 1 || impl.TellVote != 2 || impl.AskAppend != 3 || impl.TellAppend != 4 || impl.AskInstall != 5 || impl.TellInstall != 6 {
		t.Error("a Kind of messages is not the document's")
	}
}

func TestMessagesByteByByte(t *testing.T) {
	for want, m := range map[string]impl.Message{
		"\x01\x01\x02\x03\x04\x02\x00\x00\x00\x00\x00\x00": {
			Kind: impl.AskVote, From: 1, To: 2, Term: 3, Index: 4, LogTerm: 2},
		"\x01\x04\x03\x00\x00\x00\x00\x00\x00\x00\x00\x00": {
			Kind: impl.AskVote, From: 4, To: 3},
		"\x02\x02\x01\x03\x00\x00\x00\x01\x00\x00\x00\x00": {
			Kind: impl.TellVote, From: 2, To: 1, Term: 3, Ok: true},
		"\x02\x03\x01\xa0\x8d\x06\x00\x00\x00\x00\x00\x00\x00\x00": {
			Kind: impl.TellVote, From: 3, To: 1, Term: 100000},
		"\x03\x01\x02\x05\x07\x02\x03\x00\x00\x00\x00\x00": {
			Kind: impl.AskAppend, From: 1, To: 2, Term: 5, Index: 7, LogTerm: 2, Commit: 3},
		"\x03\x04\x03\xac\x02\x80\x01\x7f\xa0\x8d\x06\x00\x00\x04" +
			"\x04E\x01\x7f\x01" + "\x07E\x01\x80\x01\x02\x01\x02" + "\x06E\x01\xac\x02\x03x" + "\x05E\x01\xac\x02\x03" + "\x00\x00": {
			Kind: impl.AskAppend, From: 4, To: 3, Term: 300, Index: 128, LogTerm: 127, Commit: 100000,
			Entries: entries(noneOf(127), confOf(128, "\x01\x02"), commandOf(300, "x"), commandOf(300, ""))},
		"\x03\x02\x04\xa0\x8d\x06\x00\x00\x00\x01\x00\x01" + "\x7eE\x01\xa0\x8d\x06\x03" + letters(120) + "\x00\x00": {
			Kind: impl.AskAppend, From: 2, To: 4, Term: 100000, Ok: true, Entries: entries(commandOf(100000, letters(120)))},
		"\x04\x01\x04\xa0\x8d\x06\x9f\x8d\x06\x00\x00\x01\x00\x00\x00\x00": {
			Kind: impl.TellAppend, From: 1, To: 4, Term: 100000, Index: 99999, Ok: true},
		"\x04\x01\x04\x01\x02\x03\x04\x00\x00\x00\x00\x00": {
			Kind: impl.TellAppend, From: 1, To: 4, Term: 1, Index: 2, LogTerm: 3, Commit: 4},
		"\x05\x01\x02\x05\x07\x02\x3c\x00\x01\x00\x03\x01\x02\x03\x03abc": {
			Kind: impl.AskInstall, From: 1, To: 2, Term: 5, Index: 7, LogTerm: 2, Commit: 60, Conf: numbers(1, 2, 3), Data: "abc", Last: true},
		"\x05\x03\x02\x00\x00\x00\x00\x01\x00\x00\x01\x04\x3c" + letters(60): {
			Kind: impl.AskInstall, From: 3, To: 2, Ok: true, Conf: numbers(4), Data: letters(60)},
		"\x05\x03\x02\x00\x00\x00\x00\x01\x01\x00\x04\x01\x02\x03\x04\x00": {
			Kind: impl.AskInstall, From: 3, To: 2, Ok: true, Conf: numbers(1, 2, 3, 4), Last: true},
		"\x06\x02\x01\x05\x07\x00\x3c\x00\x00\x00\x00\x00": {
			Kind: impl.TellInstall, From: 2, To: 1, Term: 5, Index: 7, Commit: 60},
		"\x06\x02\x01\x05\xff\x7f\x80\x01\x80\x80\x01\x01\x00\x00\x00\x00": {
			Kind: impl.TellInstall, From: 2, To: 1, Term: 5, Index: 16383, LogTerm: 128, Commit: 16384, Ok: true},
	} {
		if text, ok := impl.Encode(m); !ok || text != want {
			t.Errorf("Encode(%s) = %q, %v; want %q", shortMessage(m), text, ok, want)
		}
		wantMessage(t, "by hand", m, true)
		wantDecode(t, "by hand", want)
	}
}

func TestRightMessagesComeBack(t *testing.T) {
	for why, m := range rightMessages() {
		wantMessage(t, why, m, true)
	}
}

func farNumbers() []int {
	const least, most = math.MinInt, math.MaxInt
	return numbers(least, least+1, least+5, -1<<32, -100001, -100000, -256, -255, -251, -128, -5, -1,
		127, 128, 129, 255, 256, 257, 258, 261, 1000000000, 1000000001, 1<<32, 1<<32+1, 1<<32+2, most-1, most)
}

func TestKindsOfMessages(t *testing.T) {
	for kind, m := range ofEachKind() {
		wantMessage(t, "an ordinary one", m, true)
		for _, other := range append(farNumbers(), -1, 0, 7, 8) {
			wantMessage(t, "no Kind", messageWith(m, func(m *impl.Message) { m.Kind = other }), false)
		}
		for _, other := range numbers(1, 2, 3, 4, 5, 6) {
			// What AskAppend and AskInstall have, the other Kinds have not.
			alike := other == kind || kind != 3 && kind != 5 && other != 5
			wantMessage(t, "another Kind", messageWith(m, func(m *impl.Message) { m.Kind = other }), alike)
		}
	}
	wantMessage(t, "zero", impl.Message{}, false)
	wantMessage(t, "Kind 0", messageOf(0), false)
	wantMessage(t, "Kind 1", messageOf(1), true)
	wantMessage(t, "Kind 6", messageOf(6), true)
	wantMessage(t, "Kind 7", messageOf(7), false)
	wantMessage(t, "AskInstall without a Conf", messageOf(5), false)
}

func TestNodesOfMessages(t *testing.T) {
	ids := append(farNumbers(), 0, 1, 2, 3, 4, 5, 6)
	for _, m := range ofEachKind() {
		right := 0
		for _, from := range ids {
			for _, to := range ids {
				ok := from >= 1 && from <= 4 && to >= 1 && to <= 4 && from != to
				wantMessage(t, "nodes", messageWith(m, func(m *impl.Message) { m.From, m.To = from, to }), ok)
				if ok {
					right++
				}
			}
		}
		if right != 4*3 {
			t.Errorf("%d pairs of nodes are right", right)
		}
	}
}

func TestNumbersOfMessagesAtTheirLimits(t *testing.T) {
	fields := map[string]func(m *impl.Message) *int{
		"Term":    func(m *impl.Message) *int { return &m.Term },
		"Index":   func(m *impl.Message) *int { return &m.Index },
		"LogTerm": func(m *impl.Message) *int { return &m.LogTerm },
		"Commit":  func(m *impl.Message) *int { return &m.Commit },
	}
	for why, field := range fields {
		for kind, m := range ofEachKind() {
			m.Entries = nil
			for _, n := range append(farNumbers(), 0, 1, 2, 16383, 16384, 99999, 100000, 100001, 100002) {
				*field(&m) = n
				wantMessage(t, fmt.Sprint(why, " of Kind ", kind), m, n >= 0 && n <= 100000)
			}
		}
	}
}

// Neither Index nor Commit is held against how many entries there are.
func TestEntriesBehindTheGreatestIndex(t *testing.T) {
	for _, index := range numbers(0, 99996, 99999, 100000) {
		m := appendOf(noneOf(2), noneOf(3), noneOf(4), noneOf(5))
		m.Index, m.Commit = index, 100000-index
		wantMessage(t, "MaxSend entries", m, true)
	}
}

func TestHowManyEntriesAMessageHas(t *testing.T) {
	for n := range 12 {
		wantMessage(t, "so many", appendOf(slices.Repeat(entries(noneOf(3)), n)...), n <= 4)
		wantMessage(t, "so many long ones", appendOf(slices.Repeat(entries(commandOf(3, letters(120))), n)...), n <= 4)
	}
	for _, n := range numbers(127, 128, 256, 257, 260, 100000) {
		m := appendOf(slices.Repeat(entries(noneOf(3)), n)...)
		if text, ok := impl.Encode(m); ok || text != "" || impl.MessageOk(m) {
			t.Errorf("a message of %d entries is right", n)
		}
	}
}

func TestEntriesOfEachKind(t *testing.T) {
	for kind, m := range ofEachKind() {
		for n := range 6 {
			m.Entries = slices.Repeat(entries(noneOf(3)), n)
			wantMessage(t, "entries", m, n == 0 || kind == 3 && n <= 4)
		}
		m.Entries = entries(impl.Entry{})
		wantMessage(t, "an entry that is zero", m, false)
	}
}

func TestMessagesOfEachEntry(t *testing.T) {
	for why, e := range rightEntries() {
		m := appendOf(e)
		m.Term, m.LogTerm = e.Term, e.Term
		wantMessage(t, why, m, true)
		m.Entries = entries(e, e, e, e)
		wantMessage(t, why+", four", m, true)
		m.Entries = entries(e, e, e, e, e)
		wantMessage(t, why+", five", m, false)
	}
	for why, e := range wrongEntries() {
		for at := range 4 {
			m := appendOf(noneOf(2), noneOf(2), noneOf(2), noneOf(2))
			m.Entries[at] = e
			wantMessage(t, why, m, false)
			m.Term, m.LogTerm = 100000, 0
			wantMessage(t, why+", any terms", m, false)
			m.Entries = m.Entries[:at+1]
			wantMessage(t, why+", last", m, false)
		}
	}
}

func entriesOfTerms(terms ...int) []impl.Entry {
	var list []impl.Entry
	for at, term := range terms {
		list = append(list, []impl.Entry{noneOf(term), commandOf(term, "x"), confOf(term, "\x03")}[at%3])
	}
	return list
}

func TestTermsOfEntriesByHand(t *testing.T) {
	for _, c := range []struct {
		logTerm, term int
		terms         []int
		ok            bool
	}{
		{2, 5, numbers(), true},
		{5, 2, numbers(), true},
		{2, 5, numbers(2), true},
		{2, 5, numbers(1), false},
		{2, 5, numbers(5), true},
		{2, 5, numbers(6), false},
		{2, 2, numbers(2), true},
		{2, 2, numbers(3), false},
		{3, 2, numbers(2), false},
		{3, 2, numbers(3), false},
		{100000, 0, numbers(), true},
		{100000, 0, numbers(0), false},
		{100000, 100000, numbers(100000), true},
		{100000, 100000, numbers(99999), false},
		{99999, 99999, numbers(100000), false},
		{0, 100000, numbers(100001), false},
		{0, 100000, numbers(0, 100000), true},
		{0, 0, numbers(0, 0, 0, 0), true},
		{0, 0, numbers(0, 0, 0, 1), false},
		{0, 0, numbers(-1), false},
		{2, 5, numbers(2, 3, 4, 5), true},
		{2, 5, numbers(2, 2, 5, 5), true},
		{2, 5, numbers(3, 3, 3, 3), true},
		{2, 5, numbers(3, 2), false},
		{2, 5, numbers(5, 4), false},
		{2, 5, numbers(3, 3, 4, 3), false},
		{2, 5, numbers(3, 2, 4, 5), false},
		{2, 5, numbers(5, 5, 5, 4), false},
		{2, 5, numbers(1, 3, 4, 5), false},
		{2, 5, numbers(2, 1, 4, 5), false},
		{2, 5, numbers(2, 3, 4, 6), false},
		{2, 5, numbers(2, 3, 6, 5), false},
		{2, 5, numbers(6, 6, 6, 6), false},
		{2, 5, numbers(2, 3, 4, 5, 5), false},
	} {
		m := appendOf(entriesOfTerms(c.terms...)...)
		m.LogTerm, m.Term = c.logTerm, c.term
		wantMessage(t, "terms by hand", m, c.ok)
	}
}

func TestTermsOfAllShortListsOfEntries(t *testing.T) {
	right := 0
	for _, terms := range listsOf(4, 0, 1, 2, 3) {
		for _, logTerm := range numbers(0, 1, 2, 3, 4) {
			for _, term := range numbers(0, 1, 2, 3, 4) {
				m := appendOf(entriesOfTerms(terms...)...)
				m.LogTerm, m.Term = logTerm, term
				if wantPlainMessage(t, "a short list of terms", m) {
					right++
				}
			}
		}
	}
	if right < 300 {
		t.Errorf("%d of the lists of terms are right", right)
	}
}

func TestConfsOfMessages(t *testing.T) {
	lists := listsOf(5, 0, 1, 2, 3, 4, 5)
	lists = append(lists, listsOf(3, 1, 2, 257, 258, -255, -254, 256, -1, math.MinInt, math.MaxInt)...)
	for kind, m := range ofEachKind() {
		right := 0
		for _, conf := range lists {
			m.Conf = conf
			wantMessage(t, "a conf", m, kind == 5 && plainConfOk(conf) || kind != 5 && len(conf) == 0)
			if impl.MessageOk(m) && len(conf) > 0 {
				right++
			}
		}
		// All of them; and 1, 2, and both once more.
		if want := map[int]int{5: 15 + 3}[kind]; right != want {
			t.Errorf("%d confs are right of Kind %d, not %d", right, kind, want)
		}
		m.Conf = upTo(1, 100000)
		wantMessage(t, "a far too long conf", m, false)
	}
}

func TestDataOfMessages(t *testing.T) {
	for kind, m := range ofEachKind() {
		for _, size := range numbers(0, 1, 2, 58, 59, 60, 61, 62, 120, 127, 128, 256, 316, 20000, 20001, 100000) {
			for _, b := range []string{"x", "\x00", "\xff"} {
				m.Data = strings.Repeat(b, size)
				wantMessage(t, "Data", m, size == 0 || kind == 5 && size <= 60)
			}
		}
	}
}

func TestFlagsOfMessages(t *testing.T) {
	for kind, m := range ofEachKind() {
		for _, flag := range []bool{false, true} {
			m.Ok = flag
			m.Last = false
			wantMessage(t, "not Last", m, true)
			m.Last = true
			wantMessage(t, "Last", m, kind == 5)
		}
	}
}

func TestMessagesCutAtEveryPlace(t *testing.T) {
	for why, m := range rightMessages() {
		text := plainEncode(m)
		for at := range len(text) {
			wantNoDecode(t, why+", cut", text[:at])
			wantDecode(t, why+", without its beginning", text[at+1:])
			wantDecode(t, why+", a byte left out", text[:at]+text[at+1:])
			wantDecode(t, why+", a byte twice", text[:at+1]+text[at:])
			wantDecode(t, why+", cut, and a nought", text[:at]+"\x00")
			wantDecode(t, why+", cut, and noughts", text[:at]+strings.Repeat("\x00", 12))
		}
	}
}

func TestBytesBehindMessages(t *testing.T) {
	for why, m := range rightMessages() {
		text := plainEncode(m)
		for b := range 256 {
			wantNoDecode(t, why+", a byte behind", text+string([]byte{byte(b)}))
			wantDecode(t, why+", a byte ahead", string([]byte{byte(b)})+text)
		}
		wantNoDecode(t, why+", twice", text+text)
		wantNoDecode(t, why+", noughts behind", text+strings.Repeat("\x00", 50))
		wantNoDecode(t, why+", much behind", text+letters(20001))
		wantNoDecode(t, why+", far more behind", text+letters(100000))
		wantNoDecode(t, why+", a frame", plainFrame(text))
		wantNoDecode(t, why+", sealed", plainSealed(text))
	}
}

func TestMessagesWithAByteTurned(t *testing.T) {
	right := 0
	for why, m := range rightMessages() {
		text := plainEncode(m)
		for at := range len(text) {
			for by := 1; by < 256; by++ {
				if wantDecode(t, why+", a byte turned", turned(text, at, by)) {
					right++
				}
			}
		}
	}
	if right < 10000 {
		t.Errorf("%d of the texts with a byte turned are messages", right)
	}
}

func TestFirstBytesOfMessages(t *testing.T) {
	for kind, m := range ofEachKind() {
		rest := plainEncode(m)[3:]
		for b := range 256 {
			for at := range 3 {
				head := []byte{byte(kind), 1, 2}
				head[at] = byte(b)
				ok := []bool{b == kind || b >= 1 && b <= 6 && b != 5 && kind != 3 && kind != 5, b == 1 || b == 3 || b == 4, b >= 2 && b <= 4}[at]
				if _, right := impl.Decode(string(head) + rest); right != ok {
					t.Errorf("Decode of %v and the rest of Kind %d: %v", head, kind, right)
				}
			}
		}
	}
}

// numberPlaces are those of the last byte of each number and each length that
// stands outside of an entry's text.
func numberPlaces(m impl.Message) []int {
	var places []int
	at := 3
	number := func(n, behind int) {
		at += len(plainLength(n))
		places = append(places, at-1)
		at += behind
	}
	number(m.Term, 0)
	number(m.Index, 0)
	number(m.LogTerm, 0)
	number(m.Commit, 2)
	number(len(m.Entries), 0)
	for _, text := range entryTexts(m.Entries) {
		number(len(text), len(text))
	}
	number(len(m.Conf), len(m.Conf))
	number(len(m.Data), len(m.Data))
	return places
}

func TestNumbersOfMessagesInALongerForm(t *testing.T) {
	for why, m := range rightMessages() {
		text := plainEncode(m)
		places := numberPlaces(m)
		if len(places) != 7+len(m.Entries) || places[len(places)-1] != len(text)-1-len(m.Data) {
			t.Fatalf("%s: numbers at %v of %d bytes", why, places, len(text))
		}
		for _, at := range places {
			wantNoDecode(t, why+", a longer form", longer(text, at))
			high := string([]byte{text[at] + 128})
			for _, rest := range []string{"\x80\x00", "\x80\x80\x00", "\x80\x80\x80\x00", "\x80\x80\x80\x80\x00", "\x80\x80\x80\x80\x80\x80\x80\x80\x00", "\x80\x80\x80\x80\x10"} {
				wantNoDecode(t, why+", a far longer form", text[:at]+high+rest+text[at+1:])
			}
			wantNoDecode(t, why+", a number without an end", text[:at]+strings.Repeat("\x80", 50))
			wantNoDecode(t, why+", a number without an end, of 255", text[:at]+strings.Repeat("\xff", 50))
		}
		for at := range 3 {
			wantNoDecode(t, why+", a longer form of one byte", longer(text, at))
		}
	}
}

func TestFlagsThatAreNeitherOfTheTwo(t *testing.T) {
	for kind, m := range ofEachKind() {
		text := plainEncode(m)
		begin := 3 + 4
		for flag := range 256 {
			b := string([]byte{byte(flag)})
			ok := text[:begin] + b + text[begin+1:]
			last := text[:begin+1] + b + text[begin+2:]
			if wantDecode(t, "Ok", ok) != (flag <= 1) {
				t.Errorf("a byte %d for Ok of Kind %d", flag, kind)
			}
			if wantDecode(t, "Last", last) != (flag == 0 || flag == 1 && kind == 5) {
				t.Errorf("a byte %d for Last of Kind %d", flag, kind)
			}
		}
		wantNoDecode(t, "Ok in a longer form", longer(text, begin))
		wantNoDecode(t, "Last in a longer form", longer(text, begin+1))
	}
	m, ok := impl.Decode("\x05\x01\x02\x05\x07\x02\x3c\x01\x00\x00\x01\x03\x00")
	if !ok || !m.Ok || m.Last {
		t.Errorf("the flags of %s, %v", shortMessage(m), ok)
	}
}

func TestEntriesOfAnotherIndex(t *testing.T) {
	list := entries(noneOf(2), confOf(3, "\x01\x02"), commandOf(5, "x"), commandOf(5, ""))
	m := appendOf(list...)
	for at := range list {
		for _, index := range numbers(0, 1, 2, 3, 4, 7, 8, 127, 128, 129, 257, 99999, 100000, 100001, 1000000000) {
			texts := entryTexts(list)
			texts[at] = plainEntryText(index, list[at])
			if wantDecode(t, "another index", plainBytes(m, texts, "")) != (index == 1) {
				t.Errorf("an entry with the index %d", index)
			}
			if index != 1 {
				wantNoDecode(t, "another index, last", plainBytes(m, texts[:at+1], ""))
			}
		}
	}
	for _, first := range numbers(0, 2, 7, 8) {
		var texts []string
		for at, e := range list {
			texts = append(texts, plainEntryText(first+at, e))
		}
		wantNoDecode(t, "indexes that go on", plainBytes(m, texts, ""))
	}
	var texts []string
	for at, e := range list {
		texts = append(texts, plainEntryText(1+at, e))
	}
	wantNoDecode(t, "indexes from 1 on", plainBytes(m, texts, ""))
	wantDecode(t, "the first alone", plainBytes(m, texts[:1], ""))
}

func TestTextsOfEntriesThatAreNone(t *testing.T) {
	m := appendOf()
	right := plainEntryText(1, commandOf(3, "x"))
	for why, odd := range map[string]string{
		"the empty text":                 "",
		"E alone":                        "E",
		"an S":                           "S" + right[1:],
		"without E":                      right[1:],
		"a nought":                       "\x00",
		"words":                          "no entry",
		"a longer form of the index":     longer(right, 1),
		"a longer form of Term":          longer(right, 2),
		"a longer form of Kind":          longer(right, 3),
		"cut ahead of Kind":              right[:3],
		"Kind 0":                         "E\x01\x03\x00",
		"Kind 4":                         "E\x01\x03\x04",
		"nothing with Data":              "E\x01\x03\x01x",
		"a conf of no bytes":             "E\x01\x03\x02",
		"a conf that falls":              "E\x01\x03\x02\x02\x01",
		"a conf of MaxNodes + 1":         "E\x01\x03\x02\x05",
		"a command of MaxData + 1 bytes": plainEntryText(1, commandOf(3, letters(121))),
		"a command of many bytes":        plainEntryText(1, commandOf(3, letters(20000-4))),
		"a command of MaxText + 1 bytes": plainEntryText(1, commandOf(3, letters(20001-4))),
		"a term below LogTerm":           plainEntryText(1, noneOf(1)),
		"a term above Term":              plainEntryText(1, noneOf(6)),
		"a term above MaxTerm":           plainEntryText(1, noneOf(100001)),
		"a frame":                        plainFrame(right),
		"its length ahead":               plainShort(right),
	} {
		wantNoDecode(t, why, plainBytes(m, []string{odd}, ""))
		wantNoDecode(t, why+", behind one", plainBytes(m, []string{right, odd}, ""))
		wantNoDecode(t, why+", ahead of one", plainBytes(m, []string{odd, right}, ""))
		wantNoDecode(t, why+", the last of four", plainBytes(m, []string{right, right, right, odd}, ""))
	}
	for at := range len(right) {
		for by := 1; by < 256; by++ {
			wantDecode(t, "a byte of it turned", plainBytes(m, []string{turned(right, at, by)}, ""))
		}
	}
}

func TestANumberOfEntriesThatIsNotTheirs(t *testing.T) {
	for n := range 6 {
		m := appendOf(slices.Repeat(entries(commandOf(3, "x")), n)...)
		rest := plainEncode(m)[len(plainHead(m))+1:]
		for _, told := range numbers(0, 1, 2, 3, 4, 5, 6, 127, 128, 255, 256, 260, 20000, 1000000000, 1000000001) {
			text := plainHead(m) + plainLength(told) + rest
			if wantDecode(t, "so many are told", text) != (told == n && n <= 4) {
				t.Errorf("%d entries, %d of which are told", n, told)
			}
		}
	}
}

func TestConfBytesOfMessages(t *testing.T) {
	for kind, m := range ofEachKind() {
		right := 0
		for _, conf := range listsOf(5, 0, 1, 2, 3, 4, 5, 129) {
			text := plainBytes(m, entryTexts(m.Entries), bytesOfConf(conf))
			if wantDecode(t, "a conf", text) {
				right++
			}
		}
		if want := map[bool]int{true: 15, false: 1}[kind == 5]; right != want {
			t.Errorf("%d confs are right of Kind %d", right, kind)
		}
		for _, size := range numbers(5, 100, 127, 128, 257, 20000, 20001) {
			for _, b := range []string{"\x00", "\x01", "\x04", "\xff"} {
				wantNoDecode(t, "a long conf", plainBytes(m, entryTexts(m.Entries), strings.Repeat(b, size)))
			}
		}
	}
	m := shipOf(nil, "abc", true)
	for why, conf := range map[string]string{
		"that falls":            "\x02\x01",
		"that falls at last":    "\x01\x03\x02",
		"of two alike":          "\x02\x02",
		"of two alike at last":  "\x01\x02\x02",
		"of none":               "",
		"from 0 on":             "\x00\x01",
		"up to MaxNodes + 1":    "\x01\x05",
		"of a number too many":  "\x01\x02\x03\x04\x05",
		"of four alike":         "\x01\x01\x01\x01",
		"of figures":            "12",
		"with its length ahead": "\x02\x01\x02",
	} {
		wantNoDecode(t, "a conf "+why, plainBytes(m, nil, conf))
	}
}

func TestLengthsPastTheEndOfMessages(t *testing.T) {
	for _, size := range numbers(1, 2, 4, 5, 60, 61, 127, 128, 255, 256, 19999, 20000, 20001, 100000, 1000000000, 1000000001) {
		far := plainLength(size)
		head := plainHead(messageOf(3))
		wantNoDecode(t, "an entry past the end", head+"\x01"+far)
		wantNoDecode(t, "an entry past the end, noughts", head+"\x01"+far+"\x00\x00")
		head = plainHead(messageOf(5)) + "\x00"
		wantNoDecode(t, "a conf past the end", head+far)
		wantNoDecode(t, "Data past the end", head+"\x01\x01"+far)
		wantDecode(t, "Data of these", head+"\x01\x01"+far+letters(size%100001))
		if size > 1 {
			wantNoDecode(t, "Data past the end by all but one", head+"\x01\x01"+far+"x")
		}
	}
}

func TestTextsOfNoMessage(t *testing.T) {
	for why, text := range map[string]string{
		"the empty text": "",
		"words":          "no message at all",
		"figures":        "1 1 2 3 4 2 0 0 0 0 0 0",
		"a batch":        plainBatchText(batchOf(3, set("a", "x"))),
		"a manifest":     plainManifestText(ordinary()),
		"an entry":       plainEntryText(1, commandOf(3, "x")),
		"a log":          plainLogFile(ordinaryLog()),
		"a vote":         plainVote(cast{3, 2}),
	} {
		wantNoDecode(t, why, text)
	}
	for _, size := range numbers(1, 2, 11, 12, 13, 100, 20000, 20001, 100000) {
		for b := range 256 {
			if size < 20000 || b%51 == 0 {
				wantNoDecode(t, "one byte repeated", strings.Repeat(string([]byte{byte(b)}), size))
			}
		}
	}
	// No message has fewer than twelve bytes.
	d := &drawing{state: 60}
	for range 20000 {
		wantNoDecode(t, "a short text", string([]byte{byte(1 + d.below(6)), 1, 2})+strings.Repeat("\x00", d.below(5))+d.bytes(4))
	}
}

func TestEachMessageHasBytesOfItsOwn(t *testing.T) {
	told := map[string]impl.Message{}
	tell := func(m impl.Message) {
		t.Helper()
		text, ok := impl.Encode(m)
		if !ok {
			return
		}
		if was, there := told[text]; there && !sameMessage(was, m) {
			t.Errorf("%s and %s have the same bytes", shortMessage(was), shortMessage(m))
		}
		told[text] = m
	}
	for _, m := range rightMessages() {
		for kind := range 7 {
			m.Kind = kind
			tell(m)
		}
	}
	for _, list := range listsOf(4, 0, 1, 128) {
		list = append(list, 0, 0, 0, 0)
		for kind, conf := range map[int][]int{1: nil, 3: nil, 5: numbers(1)} {
			m := impl.Message{Kind: kind, From: 1, To: 2, Term: list[0], Index: list[1], LogTerm: list[2], Commit: list[3], Conf: conf}
			for _, flag := range []bool{false, true} {
				m.Ok = flag
				tell(m)
				m.Last = flag
				tell(m)
				m.Last = false
			}
		}
	}
	for _, data := range []string{"", "\x00", "\x00\x00", "\x01", "\x01\x02", "\x01\x01\x00"} {
		for _, conf := range rightConfs() {
			tell(shipOf(conf, data, false))
		}
		for _, more := range []string{"", "\x00", "\x04E\x01\x03\x01"} {
			tell(appendOf(commandOf(3, data), commandOf(3, more)))
			tell(appendOf(commandOf(3, data+more)))
			tell(appendOf(commandOf(3, data), noneOf(3), commandOf(3, more)))
		}
	}
	if len(told) < 300 {
		t.Errorf("%d messages were told", len(told))
	}
}

// drawnMessage is right.
func drawnMessage(d *drawing) impl.Message {
	number := func() int { return d.below([]int{3, 300, 100001}[d.below(3)]) }
	m := impl.Message{Kind: 1 + d.below(6), From: 1 + d.below(4), Ok: d.below(2) == 0}
	m.To = 1 + (m.From+d.below(3))%4
	m.Term, m.Index, m.LogTerm, m.Commit = number(), number(), number(), number()
	switch m.Kind {
	case 3:
		m.Entries = drawnTail(d, d.below(5), m.LogTerm)
		for _, e := range m.Entries {
			m.Term = max(m.Term, e.Term)
		}
		if n := len(m.Entries); n > 0 && d.below(3) == 0 {
			m.Term = m.Entries[n-1].Term
		}
	case 5:
		m.Conf, m.Data, m.Last = drawnSet(d, 4, 1, 5), d.bytes(60), d.below(2) == 0
	}
	return m
}

func TestDrawnMessages(t *testing.T) {
	d := &drawing{state: 61}
	kinds := make([]int, 7)
	for range 20000 {
		m := drawnMessage(d)
		kinds[m.Kind]++
		wantMessage(t, "a drawn one", m, true)
	}
	if slices.Min(kinds[1:]) < 2000 {
		t.Errorf("so many of each Kind are drawn: %v", kinds)
	}
}

// spoiledMessage is m with one thing another one, which may leave a right one.
func spoiledMessage(d *drawing, m impl.Message) impl.Message {
	odd := numbers(-1, 0, 1, 2, 3, 4, 5, 6, 7, 128, 256, 257, 100000, 100001)[d.below(14)]
	m.Entries, m.Conf = slices.Clone(m.Entries), slices.Clone(m.Conf)
	switch d.below(14) {
	case 0:
		m.Kind = odd
	case 1:
		m.From = odd
	case 2:
		m.To = odd
	case 3:
		m.Term = odd
	case 4:
		m.Index = odd
	case 5:
		m.LogTerm = odd
	case 6:
		m.Commit = odd
	case 7:
		m.Last = !m.Last
	case 8:
		m.Data += d.bytes(9)
	case 9:
		m.Conf = append(m.Conf, odd)
	case 10:
		m.Entries = append(m.Entries, drawnEntry(d))
	case 11:
		m.Term += d.below(3) - 1
	case 12:
		m.LogTerm += d.below(3) - 1
	case 13:
		if n := len(m.Entries); n > 0 {
			m.Entries[d.below(n)].Term += d.below(3) - 1
		}
	}
	return m
}

func TestDrawnMessagesSpoiled(t *testing.T) {
	d := &drawing{state: 62}
	right := 0
	for range 30000 {
		if wantPlainMessage(t, "spoiled", spoiledMessage(d, drawnMessage(d))) {
			right++
		}
	}
	if right < 3000 || right > 27000 {
		t.Errorf("%d of the spoiled ones are right", right)
	}
}

func TestDrawnBytesOfMessages(t *testing.T) {
	d := &drawing{state: 63}
	right := 0
	for range 40000 {
		text := plainEncode(drawnMessage(d))
		at := d.below(len(text))
		switch d.below(5) {
		case 0:
			text = turned(text, at, d.below(256))
		case 1:
			text = text[:at] + text[min(at+1+d.below(3), len(text)):]
		case 2:
			text = text[:at] + d.bytes(3) + text[at:]
		case 3:
			text = text[:at+1]
		case 4:
			text = turned(text, at, 1<<d.below(3))
		}
		if wantDecode(t, "drawn bytes", text) {
			right++
		}
	}
	if right < 4000 || right > 36000 {
		t.Errorf("%d of the drawn texts are messages", right)
	}
}

// messageWithRoom has entries and numbers in the room behind its lists.
func messageWithRoom(m impl.Message) impl.Message {
	m.Entries = logWithRoom(impl.Log{Entries: m.Entries}).Entries
	room := append(make([]int, 0, len(m.Conf)+9), m.Conf...)
	m.Conf = append(room, 77, 88)[:len(m.Conf)]
	return m
}

func roomOfMessage(m impl.Message) string {
	return fmt.Sprint(m, m.Entries[:cap(m.Entries)], m.Conf[:cap(m.Conf)])
}

func TestArgumentsOfMessagesStay(t *testing.T) {
	d := &drawing{state: 64}
	all := rightMessages()
	for n := range 200 {
		all[fmt.Sprint("spoiled ", n)] = spoiledMessage(d, drawnMessage(d))
	}
	for why, m := range all {
		m = messageWithRoom(m)
		was := roomOfMessage(m)
		impl.MessageOk(m)
		impl.Encode(m)
		if roomOfMessage(m) != was {
			t.Errorf("%s: an argument is another now: %.300s, was %.300s", why, roomOfMessage(m), was)
		}
	}
}

func TestAnswersOfMessagesAreNewMemory(t *testing.T) {
	for why, m := range rightMessages() {
		l, words := newLog(impl.Log{Entries: m.Entries})
		m.Entries, m.Data = l.Entries, strings.Clone(m.Data)
		words = append(words, m.Data)
		text, _ := impl.Encode(m)
		wantOwn(t, why+": Encode", []string{text}, words)
		wantOwn(t, why+": Encode", words, []string{text})
		again, _ := impl.Decode(text)
		wantOwn(t, why+": Decode", append(dataOf(impl.Log{Entries: again.Entries}), again.Data), []string{text})
	}
}

func TestListsOfMessagesAreNewMemory(t *testing.T) {
	for why, m := range rightMessages() {
		text := plainEncode(m)
		first, _ := impl.Decode(text)
		second, _ := impl.Decode(text)
		overwriteEntries(first.Entries)
		overwrite(first.Conf)
		if !sameMessage(second, m) || text != plainEncode(m) {
			t.Errorf("%s: two answers of Decode share memory", why)
		}
		told, _ := impl.Encode(second)
		overwriteEntries(second.Entries)
		overwrite(second.Conf)
		if told != text {
			t.Errorf("%s: Encode answers memory of its argument", why)
		}
		wantMessage(t, why+", once more", m, true)
	}
}

// Empty lists and nil are the same value.
func TestEmptyListsOfMessages(t *testing.T) {
	for kind := range 8 {
		for _, list := range [][]impl.Entry{nil, {}, entries(noneOf(3))[:0]} {
			for _, conf := range [][]int{nil, {}, numbers(1, 2)[:0]} {
				m := messageOf(kind)
				m.Entries, m.Conf = list, conf
				wantMessage(t, "empty lists", m, kind >= 1 && kind <= 6 && kind != 5)
			}
		}
	}
}

func TestMessagesAreToldTheSameEachTime(t *testing.T) {
	m := ofEachKind()[3]
	text, _ := impl.Encode(m)
	impl.Encode(ofEachKind()[5])
	impl.Decode(plainEncode(ofEachKind()[5]))
	impl.Encode(impl.Message{})
	impl.Decode("")
	if again, _ := impl.Encode(m); again != text {
		t.Errorf("Encode tells %q, then %q", text, again)
	}
	wantDecode(t, "behind others", text)
	wantNoDecode(t, "behind others", text[:len(text)-1])
}

func TestManyMessagesAtOnce(t *testing.T) {
	var all sync.WaitGroup
	messages := rightMessages()
	for range 8 {
		all.Add(1)
		go func() {
			defer all.Done()
			for why, m := range messages {
				wantMessage(t, why+", at once", m, true)
				wantNoDecode(t, why+", at once", plainEncode(m)+"x")
			}
		}()
	}
	all.Wait()
}
