package tests

import (
	"fmt"
	"maps"
	"math"
	"regexp"
	"slices"
	"strconv"
	"strings"
	"sync"
	"testing"

	"loop.example/g00103/impl"
)

func openNew() impl.Command { return impl.Command{Op: 1} }

func getOf(session, seq int, key string) impl.Command {
	return impl.Command{Op: 2, Session: session, Seq: seq, Key: key}
}

func putOf(session, seq int, key, value string) impl.Command {
	return impl.Command{Op: 3, Session: session, Seq: seq, Key: key, Value: value}
}

func cutOf(session, seq int, key string) impl.Command {
	return impl.Command{Op: 4, Session: session, Seq: seq, Key: key}
}

func swapOf(session, seq int, key, value, old string) impl.Command {
	return impl.Command{Op: 5, Session: session, Seq: seq, Key: key, Value: value, Old: old}
}

// ofEachOp are ordinary commands, by Op, each with all that it may have.
func ofEachOp() map[int]impl.Command {
	return map[int]impl.Command{
		1: openNew(),
		2: getOf(1, 2, "a"),
		3: putOf(1, 2, "a", "x"),
		4: cutOf(1, 2, "a"),
		5: swapOf(1, 2, "a", "y", "x"),
	}
}

// opsOfASession are those that are done once for each Seq.
func opsOfASession() map[int]impl.Command {
	all := ofEachOp()
	delete(all, 1)
	return all
}

func commandWith(c impl.Command, change func(c *impl.Command)) impl.Command {
	change(&c)
	return c
}

// plainCommandOk is the document's rule, word by word.
func plainCommandOk(c impl.Command) bool {
	sizes := len(c.Key) < 10 && len(c.Value) < 13 && len(c.Old) < 13
	numbers := c.Session >= 0 && c.Session < 100001 && c.Seq >= 0 && c.Seq < 100001
	switch c.Op {
	case 1:
		return c == impl.Command{Op: 1}
	case 2, 4:
		return numbers && sizes && c.Key != "" && c.Value == "" && c.Old == ""
	case 3:
		return numbers && sizes && c.Key != "" && c.Old == ""
	case 5:
		return numbers && sizes && c.Key != ""
	default:
		return false
	}
}

// plainCommandText is the rule of CommandText, also of commands that are not
// right.
func plainCommandText(c impl.Command) string {
	text := string([]byte{byte(c.Op)}) + plainLength(c.Session) + plainLength(c.Seq)
	return text + plainShort(c.Key) + plainShort(c.Value) + plainShort(c.Old)
}

// commandHasText tells whether the numbers are such as can be written.
func commandHasText(c impl.Command) bool {
	return min(c.Op, c.Session, c.Seq) >= 0 && c.Op < 256
}

// plainReadCommand guesses a command, and looks whether the text is that one's.
func plainReadCommand(text string) (impl.Command, bool) {
	r := looseReader{rest: text}
	c := impl.Command{Op: int((r.some(1) + "\x00")[0])}
	c.Session, c.Seq = r.number(), r.number()
	c.Key = r.some(r.number())
	c.Value = r.some(r.number())
	c.Old = r.some(r.number())
	if !plainCommandOk(c) || plainCommandText(c) != text {
		return impl.Command{}, false
	}
	return c, true
}

// wantCommand holds CommandOk and CommandText against the plain rules, and
// ReadCommand against the command itself.
func wantCommand(t *testing.T, why string, c impl.Command, ok bool) {
	t.Helper()
	if plainCommandOk(c) != ok {
		t.Errorf("%s: the plain rule tells %v of %.200v", why, !ok, c)
	}
	if got := impl.CommandOk(c); got != ok {
		t.Errorf("%s: CommandOk(%.200v) = %v", why, c, got)
	}
	text, right := impl.CommandText(c)
	if !ok {
		if right || text != "" {
			t.Errorf("%s: CommandText(%.200v) = %.60q, %v; want nothing, false", why, c, text, right)
		}
		if commandHasText(c) {
			wantNoCommand(t, why, plainCommandText(c))
		}
		return
	}
	if want := plainCommandText(c); !right || text != want {
		t.Errorf("%s: CommandText(%v) = %q, %v; want %q", why, c, text, right, want)
	}
	if again, right := impl.ReadCommand(text); !right || again != c {
		t.Errorf("%s: ReadCommand(%q) = %v, %v; want %v", why, text, again, right, c)
	}
}

func wantPlainCommand(t *testing.T, why string, c impl.Command) bool {
	t.Helper()
	ok := plainCommandOk(c)
	wantCommand(t, why, c, ok)
	return ok
}

func wantNoCommand(t *testing.T, why string, text string) {
	t.Helper()
	if c, ok := impl.ReadCommand(text); ok || c != (impl.Command{}) {
		t.Errorf("%s: ReadCommand(%.60q of %d bytes) = %.200v, %v; want nothing, false", why, text, len(text), c, ok)
	}
}

// wantReadCommand holds a text against the plain rule: it is none, or just the
// bytes of the command that is told.
func wantReadCommand(t *testing.T, why string, text string) bool {
	t.Helper()
	want, ok := plainReadCommand(text)
	c, right := impl.ReadCommand(text)
	if right != ok || c != want {
		t.Errorf("%s: ReadCommand(%.60q of %d bytes) = %.200v, %v; want %v, %v", why, text, len(text), c, right, want, ok)
	}
	if again, told := impl.CommandText(c); right && (!told || again != text) {
		t.Errorf("%s: CommandText of ReadCommand(%.60q of %d bytes) = %.60q, %v", why, text, len(text), again, told)
	}
	return right
}

func rightCommands() map[string]impl.Command {
	all := map[string]impl.Command{
		"open":                        openNew(),
		"a put of the empty Value":    putOf(1, 1, "a", ""),
		"a swap from nothing":         swapOf(1, 1, "a", "x", ""),
		"a swap to nothing":           swapOf(1, 1, "a", "", "x"),
		"a swap of nothing":           swapOf(1, 1, "a", "", ""),
		"a swap of the same":          swapOf(1, 1, "a", "x", "x"),
		"the longest put":             putOf(100000, 100000, letters(9), letters(12)),
		"the longest swap":            swapOf(100000, 100000, letters(9), letters(12), strings.Repeat("\xff", 12)),
		"a swap of 11 bytes":          swapOf(99999, 99999, letters(8), letters(11), letters(11)),
		"noughts":                     swapOf(0, 0, "\x00", "\x00", "\x00\x00"),
		"the longest noughts":         swapOf(0, 0, strings.Repeat("\x00", 9), strings.Repeat("\x00", 12), strings.Repeat("\x00", 12)),
		"blanks":                      swapOf(7, 8, "   ", " ", "  "),
		"a Value that is a command's": putOf(3, 3, "a", "\x02\x01\x01\x01a\x00\x00"),
	}
	for op, c := range opsOfASession() {
		name := fmt.Sprint("Op ", op)
		all[name] = c
		all[name+", numbers 0"] = commandWith(c, func(c *impl.Command) { c.Session, c.Seq = 0, 0 })
		all[name+", numbers of two bytes"] = commandWith(c, func(c *impl.Command) { c.Session, c.Seq = 128, 16383 })
		all[name+", the greatest numbers"] = commandWith(c, func(c *impl.Command) { c.Session, c.Seq = 100000, 100000 })
		all[name+", the longest Key"] = commandWith(c, func(c *impl.Command) { c.Key = "\xff" + letters(7) + "\x00" })
	}
	return all
}

func TestSessionConstants(t *testing.T) {
	if impl.MaxSessions != 3 {
		t.Error("MaxSessions is not the document's")
	}
	if impl.OpOpen != 1 || impl.OpGet != 2 || impl.OpPut != 3 || impl.OpCut != 4 || impl.OpSwap != 5 {
		t.Error("an Op of commands is not the document's")
	}
}

func TestCommandsByteByByte(t *testing.T) {
	for want, c := range map[string]impl.Command{
		"\x01\x00\x00\x00\x00\x00":                            {Op: impl.OpOpen},
		"\x02\x01\x02\x01a\x00\x00":                           {Op: impl.OpGet, Session: 1, Seq: 2, Key: "a"},
		"\x02\x00\x00\x09" + letters(9) + "\x00\x00":          {Op: impl.OpGet, Key: letters(9)},
		"\x03\x01\x02\x01a\x01x\x00":                          {Op: impl.OpPut, Session: 1, Seq: 2, Key: "a", Value: "x"},
		"\x03\x80\x01\xac\x02\x02ab\x00\x00":                  {Op: impl.OpPut, Session: 128, Seq: 300, Key: "ab"},
		"\x03\x01\x01\x01a\x0c" + letters(12) + "\x00":        {Op: impl.OpPut, Session: 1, Seq: 1, Key: "a", Value: letters(12)},
		"\x04\x7f\x00\x01\x00\x00\x00":                        {Op: impl.OpCut, Session: 127, Key: "\x00"},
		"\x04\xa0\x8d\x06\x9f\x8d\x06\x01k\x00\x00":           {Op: impl.OpCut, Session: 100000, Seq: 99999, Key: "k"},
		"\x05\x01\x02\x01a\x01y\x01x":                         {Op: impl.OpSwap, Session: 1, Seq: 2, Key: "a", Value: "y", Old: "x"},
		"\x05\x01\x02\x01a\x00\x02xz":                         {Op: impl.OpSwap, Session: 1, Seq: 2, Key: "a", Old: "xz"},
		"\x05\x01\x02\x01a\x02xz\x00":                         {Op: impl.OpSwap, Session: 1, Seq: 2, Key: "a", Value: "xz"},
		"\x05\x03\xff\x7f\x01a\x00\x0c" + "abcdefghijkl":      {Op: impl.OpSwap, Session: 3, Seq: 16383, Key: "a", Old: "abcdefghijkl"},
		"\x05\x03\x80\x80\x01\x01a\x0c\x00xxxxxxxxxx\xff\x00": {Op: impl.OpSwap, Session: 3, Seq: 16384, Key: "a", Value: "\x00xxxxxxxxxx\xff"},
	} {
		if text, ok := impl.CommandText(c); !ok || text != want {
			t.Errorf("CommandText(%v) = %q, %v; want %q", c, text, ok, want)
		}
		if again, ok := impl.ReadCommand(want); !ok || again != c {
			t.Errorf("ReadCommand(%q) = %v, %v; want %v", want, again, ok, c)
		}
		wantCommand(t, "by hand", c, true)
		wantReadCommand(t, "by hand", want)
	}
}

func TestRightCommandsComeBack(t *testing.T) {
	for why, c := range rightCommands() {
		wantCommand(t, why, c, true)
	}
}

func TestOpsOfCommands(t *testing.T) {
	for op, c := range ofEachOp() {
		for _, other := range append(farNumbers(), -2, -1, 0, 6, 7, 8) {
			wantCommand(t, "no Op", commandWith(c, func(c *impl.Command) { c.Op = other }), false)
		}
		for other := 1; other <= 5; other++ {
			uses := map[int]int{1: 0, 2: 1, 4: 1, 3: 2, 5: 3}
			// A command of a session is right of each Op that uses as much of it.
			alike := op == other || op != 1 && other != 1 && uses[other] >= uses[op]
			wantCommand(t, "another Op", commandWith(c, func(c *impl.Command) { c.Op = other }), alike)
		}
	}
	wantCommand(t, "zero", impl.Command{}, false)
	wantCommand(t, "Op 0", impl.Command{Op: 0}, false)
	wantCommand(t, "Op 1", impl.Command{Op: 1}, true)
	wantCommand(t, "Op 5", impl.Command{Op: 5, Key: "a"}, true)
	wantCommand(t, "Op 6", impl.Command{Op: 6}, false)
	wantCommand(t, "Op 6 with a Key", impl.Command{Op: 6, Key: "a"}, false)
	for op := 2; op <= 5; op++ {
		wantCommand(t, "no Key", impl.Command{Op: op, Session: 1, Seq: 1}, false)
		wantCommand(t, "a Key alone", impl.Command{Op: op, Key: "a"}, true)
	}
}

func TestNumbersOfCommandsAtTheirLimits(t *testing.T) {
	for why, field := range map[string]func(c *impl.Command) *int{
		"Session": func(c *impl.Command) *int { return &c.Session },
		"Seq":     func(c *impl.Command) *int { return &c.Seq },
	} {
		for op, c := range ofEachOp() {
			for _, n := range append(farNumbers(), 0, 1, 2, 16383, 16384, 99999, 100000, 100001, 100002) {
				*field(&c) = n
				wantCommand(t, fmt.Sprint(why, " of Op ", op), c, n == 0 || op != 1 && n > 0 && n <= 100000)
			}
		}
	}
}

func TestTextsOfCommandsAtTheirLimits(t *testing.T) {
	sizes := numbers(0, 1, 2, 8, 9, 10, 11, 12, 13, 14, 40, 41, 127, 128, 256, 257, 265, 268, 20000, 20001, 100000)
	for op, c := range ofEachOp() {
		for _, size := range sizes {
			for _, b := range []string{"x", "\x00", "\xff", " "} {
				text := strings.Repeat(b, size)
				wantCommand(t, "Key", commandWith(c, func(c *impl.Command) { c.Key = text }),
					op == 1 && size == 0 || op != 1 && size >= 1 && size <= 9)
				wantCommand(t, "Value", commandWith(c, func(c *impl.Command) { c.Value = text }),
					size == 0 || (op == 3 || op == 5) && size <= 12)
				wantCommand(t, "Old", commandWith(c, func(c *impl.Command) { c.Old = text }),
					size == 0 || op == 5 && size <= 12)
			}
		}
	}
}

func TestFieldsThatMustBeZero(t *testing.T) {
	fields := map[string]func(c *impl.Command){
		"Session": func(c *impl.Command) { c.Session = 1 },
		"Seq":     func(c *impl.Command) { c.Seq = 1 },
		"Key":     func(c *impl.Command) { c.Key = "a" },
		"Value":   func(c *impl.Command) { c.Value = "\x00" },
		"Old":     func(c *impl.Command) { c.Old = "\x00" },
	}
	zero := map[int]string{1: "Session Seq Key Value Old", 2: "Value Old", 3: "Old", 4: "Value Old", 5: ""}
	for op, c := range ofEachOp() {
		for field, change := range fields {
			wantCommand(t, fmt.Sprint(field, " of Op ", op), commandWith(c, change), !strings.Contains(zero[op], field))
		}
	}
}

func TestAllCommandsOfAFewValues(t *testing.T) {
	right := 0
	texts := []string{"", "a", letters(9), letters(10), letters(12), letters(13)}
	for op := -1; op <= 7; op++ {
		for _, session := range numbers(-1, 0, 3, 100000, 100001) {
			for _, seq := range numbers(-1, 0, 3, 100000, 100001) {
				for _, key := range texts {
					for _, value := range texts {
						for _, old := range texts {
							c := impl.Command{Op: op, Session: session, Seq: seq, Key: key, Value: value, Old: old}
							if wantPlainCommand(t, "of a few values", c) {
								right++
							}
						}
					}
				}
			}
		}
	}
	// Nine of numbers, two of Keys, five of Values and Olds.
	if want := 1 + 9*2*(1+5+1+25); right != want {
		t.Errorf("%d of the commands are right, not %d", right, want)
	}
}

func TestCommandsCutAtEveryPlace(t *testing.T) {
	for why, c := range rightCommands() {
		text := plainCommandText(c)
		for at := range len(text) {
			wantNoCommand(t, why+", cut", text[:at])
			wantReadCommand(t, why+", without its beginning", text[at+1:])
			wantReadCommand(t, why+", a byte left out", text[:at]+text[at+1:])
			wantReadCommand(t, why+", a byte twice", text[:at+1]+text[at:])
			wantReadCommand(t, why+", cut, and a nought", text[:at]+"\x00")
			wantReadCommand(t, why+", cut, and noughts", text[:at]+strings.Repeat("\x00", 6))
		}
	}
}

func TestBytesBehindCommands(t *testing.T) {
	for why, c := range rightCommands() {
		text := plainCommandText(c)
		for b := range 256 {
			wantNoCommand(t, why+", a byte behind", text+string([]byte{byte(b)}))
			wantReadCommand(t, why+", a byte ahead", string([]byte{byte(b)})+text)
		}
		wantNoCommand(t, why+", twice", text+text)
		wantNoCommand(t, why+", noughts behind", text+strings.Repeat("\x00", 50))
		wantNoCommand(t, why+", far more behind", text+letters(100000))
		wantNoCommand(t, why+", a frame", plainFrame(text))
		wantNoCommand(t, why+", sealed", plainSealed(text))
	}
}

func TestCommandsWithAByteTurned(t *testing.T) {
	right := 0
	for why, c := range rightCommands() {
		text := plainCommandText(c)
		for at := range len(text) {
			for by := 1; by < 256; by++ {
				if wantReadCommand(t, why+", a byte turned", turned(text, at, by)) {
					right++
				}
			}
		}
	}
	if right < 10000 {
		t.Errorf("%d of the texts with a byte turned are commands", right)
	}
}

func TestNumbersOfCommandsInALongerForm(t *testing.T) {
	for why, c := range rightCommands() {
		text := plainCommandText(c)
		session := len(plainLength(c.Session))
		seq := session + len(plainLength(c.Seq))
		key := seq + 1
		value := key + len(c.Key) + 1
		old := value + len(c.Value) + 1
		if old+len(c.Old) != len(text)-1 {
			t.Fatalf("%s: the last number stands at %d of %d bytes", why, old, len(text))
		}
		for _, at := range numbers(session, seq, key, value, old) {
			wantNoCommand(t, why+", a longer form", longer(text, at))
			high := string([]byte{text[at] + 128})
			for _, rest := range []string{"\x80\x00", "\x80\x80\x00", "\x80\x80\x80\x00", "\x80\x80\x80\x80\x00", "\x80\x80\x80\x80\x80\x80\x80\x80\x00", "\x80\x80\x80\x80\x10"} {
				wantNoCommand(t, why+", a far longer form", text[:at]+high+rest+text[at+1:])
			}
			wantNoCommand(t, why+", a number without an end", text[:at]+strings.Repeat("\x80", 50))
			wantNoCommand(t, why+", a number without an end, of 255", text[:at]+strings.Repeat("\xff", 50))
		}
		wantNoCommand(t, why+", a longer form of Op", longer(text, 0))
	}
}

func TestShortTextsOfCommands(t *testing.T) {
	bytes := []string{"\x00", "\x01", "\x02", "\x03", "\x05", "\x80"}
	texts := []string{""}
	right := 0
	for range 7 {
		var next []string
		for _, text := range texts {
			if wantReadCommand(t, "a short text", text) {
				right++
			}
			for _, b := range bytes {
				next = append(next, text+b)
			}
		}
		texts = next
	}
	for _, text := range texts {
		if wantReadCommand(t, "a short text", text) {
			right++
		}
	}
	// An open; gets, puts and swaps of a Key of one byte, with Session and Seq in one.
	if want := 1 + 3*5*5*6; right != want {
		t.Errorf("%d of the short texts are commands, not %d", right, want)
	}
	for _, text := range []string{letters(20001), strings.Repeat("\x00", 100000), strings.Repeat("\xff", 100000)} {
		wantNoCommand(t, "a long text", text)
	}
}

// drawnCommand is right, of a session that may be there.
func drawnCommand(d *drawing) impl.Command {
	most := []int{4, 4, 300, 100001}[d.below(4)]
	c := impl.Command{Op: 1 + d.below(5), Session: d.below(most), Seq: d.below(most)}
	if c.Op == 1 {
		return impl.Command{Op: 1}
	}
	c.Key = string([]byte{byte(d.below(256))}) + d.bytes(8)
	if c.Op == 3 || c.Op == 5 {
		c.Value = d.bytes(12)
	}
	if c.Op == 5 {
		c.Old = d.bytes(12)
	}
	return c
}

func spoiledCommand(d *drawing, c impl.Command) impl.Command {
	far := farNumbers()
	switch d.below(6) {
	case 0:
		c.Op = []int{far[d.below(len(far))], d.below(8) - 1}[d.below(2)]
	case 1:
		c.Session = []int{far[d.below(len(far))], d.below(4) - 1, 99999 + d.below(4)}[d.below(3)]
	case 2:
		c.Seq = []int{far[d.below(len(far))], d.below(4) - 1, 99999 + d.below(4)}[d.below(3)]
	case 3:
		c.Key = letters([]int{0, 1, 9, 10, 11, 265}[d.below(6)])
	case 4:
		c.Value = letters([]int{0, 1, 12, 13, 14, 268}[d.below(6)])
	case 5:
		c.Old = letters([]int{0, 1, 12, 13, 14, 268}[d.below(6)])
	}
	return c
}

func TestDrawnCommands(t *testing.T) {
	d := &drawing{state: 70}
	right := 0
	for range 20000 {
		c := drawnCommand(d)
		wantCommand(t, "drawn", c, true)
		c = spoiledCommand(d, c)
		if wantPlainCommand(t, "drawn and spoiled", c) {
			right++
		}
		text := plainCommandText(drawnCommand(d))
		at := d.below(len(text))
		wantReadCommand(t, "drawn, a byte turned", turned(text, at, 1+d.below(255)))
		wantReadCommand(t, "drawn, a byte put in", text[:at]+string([]byte{byte(d.below(256))})+text[at:])
		wantReadCommand(t, "drawn bytes", d.bytes(20))
	}
	if right < 2000 || right > 18000 {
		t.Errorf("%d of the spoiled commands are right", right)
	}
}

// stateOf is the map whose Keys and Values come in turn, in any order.
func stateOf(words ...string) []impl.Pair { return sortedPairs(valuesOf(mapOf(words...))) }

func stateWith(m []impl.Pair, words ...string) []impl.Pair {
	values := valuesOf(m)
	maps.Copy(values, valuesOf(mapOf(words...)))
	return sortedPairs(values)
}

func stateWithout(m []impl.Pair, keys ...string) []impl.Pair {
	values := valuesOf(m)
	for _, key := range keys {
		delete(values, key)
	}
	return sortedPairs(values)
}

var sessionKey = regexp.MustCompile(`^s(0|[1-9][0-9]*)$`)

var sessionForm = regexp.MustCompile(`(?s)^(0|[1-9][0-9]*) (0|[1-9][0-9]*) (.*)$`)

// plainNumber is of figures without needless noughts.
func plainNumber(figures string) (int, bool) {
	n, err := strconv.Atoi(figures)
	return n, err == nil && strconv.Itoa(n) == figures && n >= 0 && n <= 1000000000
}

type plainSession struct {
	number, seq, index int
	reply              string
}

func plainSessions(m []impl.Pair) (map[int]plainSession, bool) {
	known := map[int]plainSession{}
	for _, p := range m {
		if !sessionKey.MatchString(p.Key) {
			continue
		}
		number, _ := plainNumber(p.Key[1:])
		// A dot of the expression is a rune: texts of other bytes are kept too.
		parts := sessionForm.FindStringSubmatch(p.Value)
		if parts == nil {
			return nil, false
		}
		seq, one := plainNumber(parts[1])
		index, two := plainNumber(parts[2])
		if !one || !two {
			return nil, false
		}
		known[number] = plainSession{number, seq, index, parts[3]}
	}
	return known, true
}

func plainValue(seq, index int, reply string) string {
	return fmt.Sprintf("%d %d %s", seq, index, reply)
}

// plainOpening is the rule of OpOpen, to a map of Go's, which it changes.
func plainOpening(values map[string]string, index int, known map[int]plainSession) (string, bool) {
	next := 1
	if figures, there := values["n"]; there {
		n, ok := plainNumber(figures)
		if !ok {
			return "", false
		}
		next = n
	}
	if len(known) >= 3 {
		list := slices.Collect(maps.Values(known))
		slices.SortFunc(list, func(a, b plainSession) int {
			return slices.Compare(numbers(a.index, a.number), numbers(b.index, b.number))
		})
		delete(values, fmt.Sprint("s", list[0].number))
	}
	values[fmt.Sprint("s", next)] = plainValue(0, index, "")
	values["n"] = fmt.Sprint(next + 1)
	return fmt.Sprint("open ", next), true
}

// plainDone is the rule of the other ops, to a map of Go's, which it changes.
func plainDone(values map[string]string, c impl.Command) string {
	value, there := values["k"+c.Key]
	switch {
	case c.Op == 2 && there:
		return "got " + value
	case c.Op == 3:
		values["k"+c.Key] = c.Value
		return "put"
	case c.Op == 4 && there:
		delete(values, "k"+c.Key)
		return "cut"
	case c.Op == 2 || c.Op == 4:
		return "none"
	case value == c.Old:
		values["k"+c.Key] = c.Value
		return "swapped"
	}
	return "kept"
}

// plainAct is the document's rule, word by word.
func plainAct(m []impl.Pair, index int, c impl.Command) ([]impl.Pair, string, bool) {
	if !plainMapOk(m) || !plainCommandOk(c) || index < 0 || index > 100000 {
		return nil, "", false
	}
	known, formed := plainSessions(m)
	if !formed {
		return nil, "", false
	}
	values := valuesOf(m)
	reply := ""
	s, there := known[c.Session]
	switch {
	case c.Op == 1:
		told, ok := plainOpening(values, index, known)
		if !ok {
			return nil, "", false
		}
		reply = told
	case !there:
		return m, "expired", true
	case c.Seq < s.seq:
		return m, "stale", true
	case c.Seq == s.seq:
		return m, s.reply, true
	case c.Seq > s.seq+1:
		return m, "gap", true
	default:
		reply = plainDone(values, c)
		values[fmt.Sprint("s", c.Session)] = plainValue(c.Seq, index, reply)
	}
	state := sortedPairs(values)
	if !plainMapOk(state) {
		return nil, "", false
	}
	return state, reply, true
}

// wantAct holds Act, and the plain rule, against what comes.
func wantAct(t *testing.T, why string, m []impl.Pair, index int, c impl.Command, state []impl.Pair, reply string) {
	t.Helper()
	if n, r, ok := plainAct(m, index, c); !ok || r != reply || !slices.Equal(n, state) {
		t.Errorf("%s: the plain rule tells %.300v, %q, %v of %.300v, %d, %.100v", why, n, r, ok, m, index, c)
	}
	n, r, ok := impl.Act(m, index, c)
	if !ok || r != reply || !slices.Equal(n, state) {
		t.Errorf("%s: Act(%.300v, %d, %.100v) = %.300v, %q, %v; want %.300v, %q", why, m, index, c, n, r, ok, state, reply)
	}
}

func wantNoAct(t *testing.T, why string, m []impl.Pair, index int, c impl.Command) {
	t.Helper()
	if n, r, ok := plainAct(m, index, c); ok {
		t.Errorf("%s: the plain rule tells %.300v, %q of %.300v, %d, %.100v", why, n, r, m, index, c)
	}
	if n, r, ok := impl.Act(m, index, c); ok || r != "" || len(n) != 0 {
		t.Errorf("%s: Act(%.300v, %d, %.100v) = %.300v, %q, %v; want nothing, false", why, m, index, c, n, r, ok)
	}
}

// wantPlainAct holds Act against the plain rule.
func wantPlainAct(t *testing.T, why string, m []impl.Pair, index int, c impl.Command) ([]impl.Pair, string, bool) {
	t.Helper()
	state, reply, ok := plainAct(m, index, c)
	if ok {
		wantAct(t, why, m, index, c, state, reply)
	} else {
		wantNoAct(t, why, m, index, c)
	}
	return state, reply, ok
}

// aState has two sessions, of which the first one's last Seq is 1.
func aState() []impl.Pair {
	return stateOf("n", "3", "s1", "1 7 put", "s2", "4 5 got z", "ka", "x", "ke", "", "kzz", "zz")
}

func TestAStoryOfASession(t *testing.T) {
	state := stateOf()
	for _, step := range []struct {
		index   int
		command impl.Command
		state   []impl.Pair
		reply   string
	}{
		{4, openNew(), stateOf("n", "2", "s1", "0 4 "), "open 1"},
		{5, getOf(1, 1, "a"), stateOf("n", "2", "s1", "1 5 none"), "none"},
		{6, putOf(1, 2, "a", "x"), stateOf("n", "2", "s1", "2 6 put", "ka", "x"), "put"},
		{8, putOf(1, 2, "a", "x"), stateOf("n", "2", "s1", "2 6 put", "ka", "x"), "put"},
		{9, getOf(1, 3, "a"), stateOf("n", "2", "s1", "3 9 got x", "ka", "x"), "got x"},
		{10, swapOf(1, 4, "a", "y", "z"), stateOf("n", "2", "s1", "4 10 kept", "ka", "x"), "kept"},
		{11, swapOf(1, 5, "a", "y", "x"), stateOf("n", "2", "s1", "5 11 swapped", "ka", "y"), "swapped"},
		{12, getOf(1, 4, "a"), stateOf("n", "2", "s1", "5 11 swapped", "ka", "y"), "stale"},
		{13, getOf(1, 7, "a"), stateOf("n", "2", "s1", "5 11 swapped", "ka", "y"), "gap"},
		{14, getOf(2, 1, "a"), stateOf("n", "2", "s1", "5 11 swapped", "ka", "y"), "expired"},
		{15, openNew(), stateOf("n", "3", "s1", "5 11 swapped", "s2", "0 15 ", "ka", "y"), "open 2"},
		{16, cutOf(2, 1, "a"), stateOf("n", "3", "s1", "5 11 swapped", "s2", "1 16 cut"), "cut"},
		{17, cutOf(1, 6, "a"), stateOf("n", "3", "s1", "6 17 none", "s2", "1 16 cut"), "none"},
		{18, openNew(), stateOf("n", "4", "s1", "6 17 none", "s2", "1 16 cut", "s3", "0 18 "), "open 3"},
		{19, openNew(), stateOf("n", "5", "s1", "6 17 none", "s3", "0 18 ", "s4", "0 19 "), "open 4"},
		{20, getOf(2, 2, "a"), stateOf("n", "5", "s1", "6 17 none", "s3", "0 18 ", "s4", "0 19 "), "expired"},
		{20, openNew(), stateOf("n", "6", "s3", "0 18 ", "s4", "0 19 ", "s5", "0 20 "), "open 5"},
	} {
		wantAct(t, "a story", state, step.index, step.command, step.state, step.reply)
		state = step.state
	}
}

func TestEachOpOfASession(t *testing.T) {
	m := aState()
	done := func(why string, c impl.Command, reply string, words ...string) {
		t.Helper()
		want := stateWith(m, append(words, "s1", "2 9 "+reply)...)
		wantAct(t, why, m, 9, c, want, reply)
	}
	done("a get", getOf(1, 2, "a"), "got x")
	done("a get of a longer key", getOf(1, 2, "zz"), "got zz")
	done("a get of the empty Value", getOf(1, 2, "e"), "got ")
	done("a get of nothing", getOf(1, 2, "b"), "none")
	done("a get of a beginning", getOf(1, 2, "z"), "none")
	done("a get of what is no client's", getOf(1, 2, "n"), "none")
	done("a get of a session", getOf(1, 2, "s1"), "none")
	done("a put", putOf(1, 2, "a", "new"), "put", "ka", "new")
	done("a put of the same", putOf(1, 2, "a", "x"), "put")
	done("a put of the empty Value", putOf(1, 2, "a", ""), "put", "ka", "")
	done("a put of a new key", putOf(1, 2, "b", "y"), "put", "kb", "y")
	done("a put of a new key, empty", putOf(1, 2, "b", ""), "put", "kb", "")
	done("a put of the longest", putOf(1, 2, letters(9), letters(12)), "put", "k"+letters(9), letters(12))
	done("a put of n", putOf(1, 2, "n", "99"), "put", "kn", "99")
	done("a put of s1", putOf(1, 2, "s1", "no"), "put", "ks1", "no")
	done("a put of bytes", putOf(1, 2, "\xff\x00", "\x00\xff "), "put", "k\xff\x00", "\x00\xff ")
	done("a cut of nothing", cutOf(1, 2, "b"), "none")
	done("a cut of a session", cutOf(1, 2, "s1"), "none")
	done("a cut of n", cutOf(1, 2, "n"), "none")
	done("a swap", swapOf(1, 2, "a", "y", "x"), "swapped", "ka", "y")
	done("a swap to the same", swapOf(1, 2, "a", "x", "x"), "swapped")
	done("a swap to the empty Value", swapOf(1, 2, "a", "", "x"), "swapped", "ka", "")
	done("a swap of another Old", swapOf(1, 2, "a", "y", "z"), "kept")
	done("a swap of a longer Old", swapOf(1, 2, "a", "y", "xx"), "kept")
	done("a swap of the empty Old", swapOf(1, 2, "a", "y", ""), "kept")
	done("a swap of a beginning", swapOf(1, 2, "zz", "y", "z"), "kept")
	done("a swap of the empty Value", swapOf(1, 2, "e", "y", ""), "swapped", "ke", "y")
	done("a swap of the empty Value, another Old", swapOf(1, 2, "e", "y", "x"), "kept")
	done("a swap of nothing", swapOf(1, 2, "b", "y", ""), "swapped", "kb", "y")
	done("a swap of nothing to the empty Value", swapOf(1, 2, "b", "", ""), "swapped", "kb", "")
	done("a swap of nothing, another Old", swapOf(1, 2, "b", "y", "x"), "kept")
	cut := stateWith(stateWithout(m, "ka"), "s1", "2 9 cut")
	wantAct(t, "a cut", m, 9, cutOf(1, 2, "a"), cut, "cut")
	cut = stateWith(stateWithout(m, "ke"), "s1", "2 9 cut")
	wantAct(t, "a cut of the empty Value", m, 9, cutOf(1, 2, "e"), cut, "cut")
}

func TestCommandsAskedAgain(t *testing.T) {
	commands := slices.Collect(maps.Values(opsOfASession()))
	commands = append(commands, getOf(1, 2, "b"), getOf(1, 2, "e"), putOf(1, 2, "b", ""), cutOf(1, 2, "b"),
		swapOf(1, 2, "a", "y", "z"), swapOf(1, 2, "b", "", ""), swapOf(1, 2, "b", "y", ""), putOf(1, 2, letters(9), letters(12)))
	for _, c := range commands {
		state, reply, ok := impl.Act(aState(), 9, c)
		if !ok || reply == "" {
			t.Errorf("Act of %v = %v, %q", c, ok, reply)
		}
		for _, index := range numbers(0, 1, 8, 9, 10, 100000) {
			for _, other := range append(commands, c) {
				// What is asked does not count: the Seq does.
				wantAct(t, "asked again", state, index, other, state, reply)
			}
		}
		again := commandWith(c, func(c *impl.Command) { c.Session = 2 })
		wantAct(t, "of another session", state, 10, again, state, "stale")
	}
	fresh := stateOf("n", "2", "s1", "0 4 ")
	for _, c := range commands {
		c.Seq = 0
		wantAct(t, "the Seq 0 of a new session", fresh, 9, c, fresh, "")
	}
}

func TestRepliesThatAreRepliedAgain(t *testing.T) {
	for _, reply := range []string{"", " ", "  ", "put", "got a b", "got ", "1 2 put", "stale", "gap", "\x00\xff", "no reply", letters(36)} {
		m := stateWith(aState(), "s1", "1 7 "+reply)
		wantAct(t, "any reply", m, 9, putOf(1, 1, "a", "new"), m, reply)
		wantAct(t, "behind any reply", m, 9, getOf(1, 2, "a"), stateWith(m, "s1", "2 9 got x"), "got x")
	}
}

func TestSeqsOfASession(t *testing.T) {
	for _, last := range numbers(0, 1, 2, 9, 10, 127, 128, 99998, 99999, 100000) {
		m := stateWith(aState(), "s1", plainValue(last, 7, "kept"))
		for _, seq := range numbers(0, 1, 2, 3, 8, 9, 10, 11, 12, 100, 127, 128, 129, 130, 99996, 99997, 99998, 99999, 100000) {
			for op, c := range opsOfASession() {
				c.Seq = seq
				switch {
				case seq < last:
					wantAct(t, "below", m, 9, c, m, "stale")
				case seq == last:
					wantAct(t, "the last", m, 9, c, m, "kept")
				case seq == last+1:
					reply := map[int]string{2: "got x", 3: "put", 4: "cut", 5: "swapped"}[op]
					state := stateWith(m, "s1", plainValue(seq, 9, reply))
					switch op {
					case 4:
						state = stateWithout(state, "ka")
					case 5:
						state = stateWith(state, "ka", "y")
					}
					wantAct(t, "one above", m, 9, c, state, reply)
				default:
					wantAct(t, "two above or more", m, 9, c, m, "gap")
				}
			}
		}
	}
}

// A Seq that no command can have is a number of the form.
func TestSeqsOfASessionPastAllCommands(t *testing.T) {
	for _, last := range numbers(100001, 100002, 999999999, 1000000000) {
		m := stateWith(aState(), "s1", plainValue(last, last, "kept"))
		for _, c := range opsOfASession() {
			c.Seq = 100000
			wantAct(t, "below", m, 9, c, m, "stale")
		}
	}
}

func TestSessionsThatAreNotThere(t *testing.T) {
	for _, number := range numbers(0, 3, 4, 10, 11, 12, 100, 99999, 100000) {
		for _, c := range opsOfASession() {
			for _, seq := range numbers(0, 1, 2, 100000) {
				c.Session, c.Seq = number, seq
				wantAct(t, "no such session", aState(), 9, c, aState(), "expired")
				wantAct(t, "no sessions", stateOf("ka", "x"), 9, c, stateOf("ka", "x"), "expired")
				wantAct(t, "nothing", nil, 9, c, nil, "expired")
				wantAct(t, "the next", stateOf("n", fmt.Sprint(number)), 9, c, stateOf("n", fmt.Sprint(number)), "expired")
			}
		}
	}
}

func TestSessionsOfAllNumbers(t *testing.T) {
	for _, number := range numbers(0, 1, 9, 10, 11, 127, 99999, 100000) {
		key := fmt.Sprint("s", number)
		m := stateOf(key, "1 7 put", "ka", "x")
		wantAct(t, "a session", m, 9, getOf(number, 2, "a"), stateWith(m, key, "2 9 got x"), "got x")
		for _, other := range numbers(0, 1, 9, 10, 11, 127, 99999, 100000) {
			if other != number {
				wantAct(t, "another session", m, 9, getOf(other, 2, "a"), m, "expired")
			}
		}
	}
}

func TestKeysThatAreNoSessions(t *testing.T) {
	for _, key := range []string{"s", "s01", "s00", "s+1", "s-1", "s-0", "s 1", "s1 ", "s1x", "sx1", "S1", "ss1", "s1.0", "s1e1", "s\x001", "s\xb9", "ks1", "1", "k1", "r1", "t1"} {
		m := stateOf(key, "no session", "s1", "1 7 put", "ka", "x", "n", "4", "s2", "1 8 put")
		wantAct(t, "not looked at", m, 9, getOf(1, 2, "a"), stateWith(m, "s1", "2 9 got x"), "got x")
		wantAct(t, "not counted", m, 9, openNew(), stateWith(m, "s4", "0 9 ", "n", "5"), "open 4")
		m = stateOf(key, "1 7 put", "ka", "x")
		wantAct(t, "not the session 1", m, 9, getOf(1, 2, "a"), m, "expired")
		m = stateWith(m, key, "0 0 put", "s1", "1 7 put", "s2", "1 8 put", "s3", "1 6 put")
		wantAct(t, "not the one that goes", m, 9, openNew(), stateWithout(stateWith(m, "s1", "0 9 ", "n", "2"), "s3"), "open 1")
	}
}

func TestOpeningWithRoom(t *testing.T) {
	wantAct(t, "nothing", nil, 3, openNew(), stateOf("n", "2", "s1", "0 3 "), "open 1")
	wantAct(t, "no pairs", []impl.Pair{}, 0, openNew(), stateOf("n", "2", "s1", "0 0 "), "open 1")
	wantAct(t, "keys alone", stateOf("ka", "x"), 100000, openNew(), stateOf("ka", "x", "n", "2", "s1", "0 100000 "), "open 1")
	wantAct(t, "one", stateOf("n", "2", "s1", "5 2 put"), 3, openNew(), stateOf("n", "3", "s1", "5 2 put", "s2", "0 3 "), "open 2")
	wantAct(t, "another one", stateOf("n", "9", "s7", "5 9 put"), 3, openNew(), stateOf("n", "10", "s7", "5 9 put", "s9", "0 3 "), "open 9")
	wantAct(t, "two", aState(), 9, openNew(), stateWith(aState(), "n", "4", "s3", "0 9 "), "open 3")
	two := stateOf("n", "11", "s10", "5 9 put", "s9", "0 0 ")
	wantAct(t, "two of two lengths", two, 3, openNew(), stateWith(two, "n", "12", "s11", "0 3 "), "open 11")
}

func TestWhichSessionGoes(t *testing.T) {
	for _, c := range []struct {
		keys    []string
		indexes []int
		gone    string
	}{
		{[]string{"s1", "s2", "s3"}, numbers(4, 5, 6), "s1"},
		{[]string{"s1", "s2", "s3"}, numbers(5, 4, 6), "s2"},
		{[]string{"s1", "s2", "s3"}, numbers(6, 5, 4), "s3"},
		{[]string{"s1", "s2", "s3"}, numbers(5, 5, 5), "s1"},
		{[]string{"s1", "s2", "s3"}, numbers(5, 4, 4), "s2"},
		{[]string{"s1", "s2", "s3"}, numbers(4, 5, 4), "s1"},
		{[]string{"s1", "s2", "s3"}, numbers(4, 4, 5), "s1"},
		{[]string{"s1", "s2", "s3"}, numbers(10, 9, 11), "s2"},
		{[]string{"s1", "s2", "s3"}, numbers(100000, 99999, 100000), "s2"},
		{[]string{"s1", "s2", "s3"}, numbers(0, 0, 0), "s1"},
		{[]string{"s8", "s9", "s10"}, numbers(5, 5, 5), "s8"},
		{[]string{"s9", "s10", "s11"}, numbers(5, 5, 5), "s9"},
		{[]string{"s9", "s10", "s11"}, numbers(6, 5, 5), "s10"},
		{[]string{"s9", "s10", "s100"}, numbers(5, 5, 5), "s9"},
		{[]string{"s99", "s100", "s1000"}, numbers(5, 5, 5), "s99"},
		{[]string{"s0", "s1", "s2"}, numbers(5, 5, 5), "s0"},
		{[]string{"s0", "s99999", "s100000"}, numbers(6, 5, 5), "s99999"},
	} {
		m := stateOf("n", "500", "ka", "x")
		for i, key := range c.keys {
			m = stateWith(m, key, plainValue(3-i, c.indexes[i], "put"))
		}
		for _, index := range numbers(0, 5, 7, 100000) {
			want := stateWithout(stateWith(m, "n", "501", "s500", plainValue(0, index, "")), c.gone)
			wantAct(t, "which goes", m, index, openNew(), want, "open 500")
		}
	}
}

func TestWhichSessionGoesOfAllIndexes(t *testing.T) {
	keys := []string{"s2", "s9", "s10"}
	for _, indexes := range listsOf(3, 0, 1, 2, 9, 10) {
		if len(indexes) < 3 {
			continue
		}
		m := stateOf("n", "11")
		for i, key := range keys {
			m = stateWith(m, key, plainValue(7-i, indexes[i], "put"))
		}
		least := slices.Index(indexes, slices.Min(indexes))
		want := stateWithout(stateWith(m, "n", "12", "s11", "0 3 "), keys[least])
		wantAct(t, "the least index", m, 3, openNew(), want, "open 11")
	}
}

// The document has one of them go, whatever came in.
func TestOpeningWithMoreSessionsThanThereMayBe(t *testing.T) {
	m := stateOf("n", "6", "s1", "1 5 put", "s2", "1 2 put", "s3", "1 3 put", "s4", "1 4 put", "s5", "1 2 put")
	wantAct(t, "one goes", m, 9, openNew(), stateWithout(stateWith(m, "n", "7", "s6", "0 9 "), "s2"), "open 6")
}

func TestTheNextSession(t *testing.T) {
	for _, next := range numbers(0, 1, 2, 9, 10, 99, 100, 99999, 100000, 100001, 999999998, 999999999) {
		m := stateOf("n", fmt.Sprint(next), "ka", "x")
		want := stateWith(m, "n", fmt.Sprint(next+1), fmt.Sprint("s", next), "0 9 ")
		wantAct(t, "the next", m, 9, openNew(), want, fmt.Sprint("open ", next))
	}
	wantNoAct(t, "a key of eleven bytes", stateOf("n", "1000000000"), 9, openNew())
	for _, figures := range []string{"", " ", "x", "01", "00", "007", "+1", "-1", "-0", " 1", "1 ", "1\x00", "1.0", "1e3", "0x1", "1000000001", "9999999999", "99999999999999999999", "18446744073709551617", letters(40), "\xb9"} {
		m := stateOf("n", figures, "s1", "1 7 put", "ka", "x")
		wantNoAct(t, "n is no number", m, 9, openNew())
		wantNoAct(t, "n is no number, no sessions", stateOf("n", figures), 9, openNew())
		// The other ops do not ask for the next session.
		wantAct(t, "n is no number", m, 9, getOf(1, 2, "a"), stateWith(m, "s1", "2 9 got x"), "got x")
		wantAct(t, "n is no number", m, 9, getOf(2, 2, "a"), m, "expired")
	}
	for _, key := range []string{"N", "n1", "nn", "kn", "n\x00", "n "} {
		m := stateOf(key, "7")
		wantAct(t, "another key", m, 9, openNew(), stateWith(m, "n", "2", "s1", "0 9 "), "open 1")
	}
}

// What n tells is the next session, also where one of that number is there.
func TestTheNextSessionIsThere(t *testing.T) {
	m := stateOf("s1", "5 5 put", "s2", "6 4 put")
	wantAct(t, "n not there", m, 9, openNew(), stateOf("n", "2", "s1", "0 9 ", "s2", "6 4 put"), "open 1")
	m = stateOf("n", "2", "s1", "5 5 put", "s2", "6 4 put", "s3", "7 6 put")
	wantAct(t, "the one that goes", m, 9, openNew(), stateOf("n", "3", "s1", "5 5 put", "s2", "0 9 ", "s3", "7 6 put"), "open 2")
	m = stateOf("n", "3", "s1", "5 5 put", "s2", "6 4 put", "s3", "7 6 put")
	wantAct(t, "not the one that goes", m, 9, openNew(), stateOf("n", "4", "s1", "5 5 put", "s3", "0 9 "), "open 3")
}

func TestIndexesOfActs(t *testing.T) {
	for _, index := range append(farNumbers(), -2, -1, 0, 1, 99999, 100000, 100001, 100002) {
		for op, c := range ofEachOp() {
			if index < 0 || index > 100000 {
				wantNoAct(t, "no index", aState(), index, c)
				wantNoAct(t, "no index, no session", nil, index, c)
				c.Seq = 1
				wantNoAct(t, "no index, asked again", aState(), index, c)
				continue
			}
			state, reply, ok := wantPlainAct(t, "an index", aState(), index, c)
			key := map[bool]string{true: "s3", false: "s1"}[op == 1]
			value := plainValue(c.Seq, index, map[bool]string{true: "", false: reply}[op == 1])
			if !ok || valuesOf(state)[key] != value {
				t.Errorf("behind the index %d: %v, %v", index, state, ok)
			}
		}
	}
}

func TestActsOfWrongCommands(t *testing.T) {
	for why, c := range map[string]impl.Command{
		"zero":                 {},
		"Op 0":                 {Op: 0, Session: 1, Seq: 2, Key: "a"},
		"Op 6":                 {Op: 6, Session: 1, Seq: 2, Key: "a"},
		"Op below 0":           {Op: math.MinInt, Session: 1, Seq: 2, Key: "a"},
		"an open of a Session": {Op: 1, Session: 1},
		"an open of a Key":     {Op: 1, Key: "a"},
		"Session below 0":      getOf(-1, 2, "a"),
		"Session above":        getOf(100001, 2, "a"),
		"Seq below 0":          getOf(1, -1, "a"),
		"Seq above":            getOf(1, 100001, "a"),
		"no Key":               getOf(1, 2, ""),
		"a long Key":           getOf(1, 2, letters(10)),
		"a long Value":         putOf(1, 2, "a", letters(13)),
		"a long Old":           swapOf(1, 2, "a", "", letters(13)),
		"a get with a Value":   {Op: 2, Session: 1, Seq: 2, Key: "a", Value: "x"},
		"a cut with an Old":    {Op: 4, Session: 1, Seq: 2, Key: "a", Old: "x"},
		"a put with an Old":    {Op: 3, Session: 1, Seq: 2, Key: "a", Old: "x"},
	} {
		wantNoAct(t, why, aState(), 9, c)
		wantNoAct(t, why+", nothing there", nil, 9, c)
		for _, seq := range numbers(0, 1, 4) {
			if c.Op != 1 && c.Seq == 2 {
				c.Seq = seq
				wantNoAct(t, why+", another Seq", aState(), 9, c)
			}
		}
	}
}

func TestActsOnWrongMaps(t *testing.T) {
	for why, m := range wrongMaps() {
		for _, c := range ofEachOp() {
			wantNoAct(t, why, m, 9, c)
		}
	}
	for why, m := range map[string][]impl.Pair{
		"a pair twice":           mapOf("ka", "x", "ka", "x", "s1", "1 7 put"),
		"the session ahead":      mapOf("s1", "1 7 put", "ka", "x"),
		"a key of eleven bytes":  mapOf("k"+letters(10), "x", "s1", "1 7 put"),
		"a value of 41 bytes":    mapOf("ka", letters(41), "s1", "1 7 put"),
		"a session of 41 bytes":  mapOf("s1", "1 7 "+letters(37)),
		"no key":                 mapOf("", "x", "s1", "1 7 put"),
		"61 pairs":               append(mapOfMany("k", 60, "x"), mapOf("s1", "1 7 put")...),
		"two sessions of a kind": mapOf("s1", "1 7 put", "s1", "1 7 put"),
	} {
		for _, c := range ofEachOp() {
			wantNoAct(t, why, m, 9, c)
		}
		for _, seq := range numbers(0, 1, 7) {
			wantNoAct(t, why, m, 9, getOf(1, seq, "a"))
			wantNoAct(t, why, m, 9, getOf(2, seq, "a"))
		}
	}
}

func wrongSessions() []string {
	return []string{
		"", " ", "  ", "   ", "x", "1", "1 ", "1  ", "1 7", " 7 put", "1  put", "1  7 put", " 1 7 put", "1put", "1 7put", "put",
		"put 1 7", "01 7 put", "1 07 put", "00 7 put", "1 00 put", "1 007 ", "-1 7 put", "1 -7 put", "+1 7 put", "1 +7 put",
		"1x 7 put", "1 7x put", "x 7 put", "1 x put", "1.0 7 put", "1 7. put", "1,7,put", "1\t7\tput", "1\x007\x00put", "1 7\x00put",
		"1\x00 7 put", "1 \x007 put", "1000000001 7 put", "1 1000000001 put", "9999999999 7 put", "1 9999999999 put",
		"18446744073709551617 7 put", "1 18446744073709551623 put", "99999999999999999999999999999999999 7 p",
		"0x1 7 put", "1 7\nput", "\n1 7 put", "1\u00a07\u00a0put", "\xb1 7 put", "1 7", "0 0", letters(40), strings.Repeat(" ", 40), strings.Repeat("0", 40),
	}
}

func TestSessionsThatAreNotOfTheForm(t *testing.T) {
	for _, value := range wrongSessions() {
		for _, own := range []string{"s1", "s2", "s0", "s77", "s100000", "s100001", "s999999999"} {
			m := stateWith(aState(), own, value)
			for op, c := range ofEachOp() {
				why := fmt.Sprintf("%s is %q", own, value)
				wantNoAct(t, why, m, 9, c)
				if op == 1 {
					continue
				}
				// Not even one that would change nothing is replied.
				for _, seq := range numbers(0, 1, 4, 5, 100000) {
					c.Seq = seq
					wantNoAct(t, why, m, 9, c)
				}
				c.Session = 50
				wantNoAct(t, why+", no such session", m, 9, c)
			}
		}
	}
}

func TestSessionsThatAreOfTheForm(t *testing.T) {
	for _, value := range []string{"0 0 ", "1 7 ", "1 7  ", "1 7 1", "1 7 put", "1 7 put again", "1 7 1 7 put", "100000 100000 ", "1000000000 1000000000 " + letters(18), "0 0 \x00", "0 0 \n", "0 0 \xff"} {
		for _, own := range []string{"s2", "s0", "s77", "s100000", "s100001", "s999999999"} {
			m := stateWith(aState(), own, value)
			wantAct(t, value, m, 9, getOf(1, 2, "a"), stateWith(m, "s1", "2 9 got x"), "got x")
			wantAct(t, value, m, 9, getOf(50, 2, "a"), m, "expired")
		}
	}
}

func TestValuesThatWouldBeTooLong(t *testing.T) {
	m := stateOf("s1", "1 7 put", "s2", "99999 7 put")
	// Two numbers of one figure, two blanks, and `got `: 8 bytes of 40.
	for size := range 41 {
		long := stateWith(m, "ka", letters(size))
		reply := "got " + letters(size)
		if size <= 32 {
			wantAct(t, "a long Value", long, 9, getOf(1, 2, "a"), stateWith(long, "s1", "2 9 "+reply), reply)
		} else {
			wantNoAct(t, "too long a Value", long, 9, getOf(1, 2, "a"))
		}
		// And of six figures each.
		if size <= 22 {
			wantAct(t, "a long Value", long, 100000, getOf(2, 100000, "a"), stateWith(long, "s2", "100000 100000 "+reply), reply)
		} else {
			wantNoAct(t, "too long a Value", long, 100000, getOf(2, 100000, "a"))
		}
		wantAct(t, "asked again", long, 9, getOf(1, 1, "a"), long, "put")
		wantAct(t, "a gap", long, 9, getOf(1, 3, "a"), long, "gap")
		wantAct(t, "a cut", long, 9, cutOf(1, 2, "a"), stateWith(stateWithout(long, "ka"), "s1", "2 9 cut"), "cut")
	}
}

// What commands put is never too long to be replied.
func TestTheLongestThatCommandsPut(t *testing.T) {
	m := stateOf("s100000", "99997 99999 put")
	m, _, _ = wantPlainAct(t, "the longest put", m, 99999, putOf(100000, 99998, letters(9), letters(12)))
	m, _, _ = wantPlainAct(t, "the longest get", m, 99999, getOf(100000, 99999, letters(9)))
	m, reply, ok := wantPlainAct(t, "the longest get", m, 100000, getOf(100000, 100000, letters(9)))
	if !ok || reply != "got "+letters(12) || valuesOf(m)["s100000"] != "100000 100000 got "+letters(12) {
		t.Errorf("the longest get: %v, %q, %v", m, reply, ok)
	}
}

// fullState has so many client's keys and sessions, and n, if it is told.
func fullState(keys, sessions int, told bool) []impl.Pair {
	m := mapOfMany("k", keys, "x")
	for number := 1; number <= sessions; number++ {
		m = stateWith(m, fmt.Sprint("s", number), "1 7 put")
	}
	if told {
		m = stateWith(m, "n", fmt.Sprint(sessions+1))
	}
	return m
}

func TestTooManyKeysToOpen(t *testing.T) {
	for _, c := range []struct {
		keys, sessions int
		told, ok       bool
	}{
		{57, 0, false, true},
		{58, 0, false, true},
		{59, 0, false, false},
		{60, 0, false, false},
		{58, 0, true, true},
		{59, 0, true, false},
		{57, 1, true, true},
		{58, 1, true, false},
		{56, 2, true, true},
		{57, 2, true, false},
		{55, 3, true, true},
		{56, 3, true, true},
		{57, 3, true, false},
		// The session 1 is there, and n comes; of three the first one goes.
		{58, 1, false, true},
		{59, 1, false, false},
		{57, 2, false, true},
		{58, 2, false, false},
		{56, 3, false, true},
		{57, 3, false, false},
	} {
		_, _, ok := wantPlainAct(t, "an open", fullState(c.keys, c.sessions, c.told), 9, openNew())
		if ok != c.ok {
			t.Errorf("an open with %d keys, %d sessions, n %v: %v", c.keys, c.sessions, c.told, ok)
		}
	}
}

func TestTooManyKeysToPut(t *testing.T) {
	for keys := 50; keys <= 58; keys++ {
		m := fullState(keys, 1, true)
		for _, c := range []impl.Command{putOf(1, 2, "new", ""), putOf(1, 2, "new", "x"), swapOf(1, 2, "new", "", ""), swapOf(1, 2, "new", "x", "")} {
			if _, _, ok := wantPlainAct(t, "a new key", m, 9, c); ok != (keys < 58) {
				t.Errorf("%v to %d keys: %v", c, keys, ok)
			}
		}
		for _, c := range []impl.Command{
			putOf(1, 2, "00", "y"), swapOf(1, 2, "00", "y", "x"), swapOf(1, 2, "new", "y", "x"), cutOf(1, 2, "00"), cutOf(1, 2, "new"),
			getOf(1, 2, "new"), putOf(1, 1, "new", ""), putOf(1, 0, "new", ""), putOf(1, 3, "new", ""), putOf(9, 2, "new", ""),
		} {
			if _, _, ok := wantPlainAct(t, "no new key", m, 9, c); !ok {
				t.Errorf("%v to %d keys: false", c, keys)
			}
		}
	}
}

// runOf is a state behind many drawn commands, of sessions that are there, were
// there, and are to come; each step is handed on.
func runOf(t *testing.T, d *drawing, steps int, each func(before []impl.Pair, index int, c impl.Command, behind []impl.Pair, reply string)) []impl.Pair {
	t.Helper()
	var state []impl.Pair
	index, next := 0, 1
	keys := []string{"a", "b", "c", "aa", "\x00"}
	values := []string{"", "x", "y", letters(12)}
	for range steps {
		c := openNew()
		if d.below(8) > 0 {
			number := max(0, next-d.below(5))
			last := 0
			if parts := sessionForm.FindStringSubmatch(valuesOf(state)[fmt.Sprint("s", number)]); parts != nil {
				last, _ = plainNumber(parts[1])
			}
			c = impl.Command{Op: 2 + d.below(4), Session: number, Seq: max(0, last+[]int{-1, 0, 1, 1, 1, 1, 2}[d.below(7)]), Key: keys[d.below(len(keys))]}
			if c.Op == 3 || c.Op == 5 {
				c.Value = values[d.below(len(values))]
			}
			if c.Op == 5 {
				c.Old = values[d.below(len(values))]
			}
		} else {
			next++
		}
		index += d.below(3)
		behind, reply, ok := wantPlainAct(t, "a run", state, index, c)
		if !ok {
			t.Fatalf("Act(%v, %d, %v) is false", state, index, c)
		}
		each(state, index, c, behind, reply)
		state = behind
	}
	return state
}

func TestRunsChangeNothingWhereNothingIsDone(t *testing.T) {
	d := &drawing{state: 71}
	seen := map[string]int{}
	for range 30 {
		runOf(t, d, 200, func(before []impl.Pair, index int, c impl.Command, behind []impl.Pair, reply string) {
			word, _, _ := strings.Cut(reply, " ")
			seen[word]++
			if reply == "expired" || reply == "stale" || reply == "gap" {
				if !slices.Equal(before, behind) {
					t.Errorf("%q, and %v is %v", reply, before, behind)
				}
				return
			}
			if c.Op == 1 {
				return
			}
			for range 3 {
				again, said, ok := impl.Act(behind, index+d.below(5), c)
				if !ok || said != reply || !slices.Equal(again, behind) {
					t.Errorf("asked again, %v is replied %q, not %q: %v is %v", c, said, reply, behind, again)
				}
			}
		})
	}
	for _, word := range []string{"open", "expired", "stale", "gap", "got", "none", "put", "cut", "swapped", "kept", ""} {
		if seen[word] < 3 {
			t.Errorf("%q is replied %d times", word, seen[word])
		}
	}
}

func TestRunsNeverHaveTooManySessions(t *testing.T) {
	d := &drawing{state: 72}
	for range 30 {
		opened := map[string]int{}
		most := 0
		runOf(t, d, 200, func(before []impl.Pair, index int, c impl.Command, behind []impl.Pair, reply string) {
			known, _ := plainSessions(behind)
			most = max(most, len(known))
			if c.Op == 1 {
				opened[reply]++
			}
		})
		if most != 3 {
			t.Errorf("there are up to %d sessions", most)
		}
		for reply, times := range opened {
			if times != 1 {
				t.Errorf("%q is replied %d times", reply, times)
			}
		}
		if len(opened) < 10 {
			t.Errorf("%d sessions are opened", len(opened))
		}
	}
}

// drawnState is one that a run may come to, or one with odd things in it.
func drawnState(d *drawing) []impl.Pair {
	m := stateOf()
	for range d.below([]int{1, 4, 8}[d.below(3)]) {
		number := []int{d.below(5), 8 + d.below(4), d.below(100001)}[d.below(3)]
		value := plainValue(d.below(4), d.below([]int{3, 12, 100001}[d.below(3)]), []string{"", "put", "got x y", "none"}[d.below(4)])
		m = stateWith(m, fmt.Sprint("s", number), value)
	}
	for range d.below(6) {
		m = stateWith(m, "k"+[]string{"a", "b", "c", "\x00"}[d.below(4)], []string{"", "x", "y", letters(30), letters(40)}[d.below(5)])
	}
	if d.below(3) > 0 {
		m = stateWith(m, "n", fmt.Sprint([]int{d.below(12), 99999 + d.below(4), 999999998 + d.below(4)}[d.below(3)]))
	}
	switch d.below(12) {
	case 0:
		wrong := wrongSessions()
		m = stateWith(m, fmt.Sprint("s", d.below(4)), wrong[d.below(len(wrong))])
	case 1:
		m = stateWith(m, "n", []string{"", "x", "01", "-1", "1 "}[d.below(5)])
	case 2:
		m = stateWith(m, []string{"s", "s01", "sx", "k", "z", "\xff"}[d.below(6)], d.bytes(40))
	case 3:
		for n := range 40 + d.below(20) {
			m = stateWith(m, fmt.Sprint("k", n), "")
		}
	case 4:
		m = spoiled(d, m)
	}
	return m
}

func TestDrawnActs(t *testing.T) {
	d := &drawing{state: 73}
	right := 0
	const acts = 30000
	for range acts {
		m := drawnState(d)
		c := drawnCommand(d)
		if c.Op != 1 && d.below(4) > 0 {
			c.Session, c.Seq = d.below(5), d.below(5)
			c.Key = []string{"a", "b", "c", "\x00"}[d.below(4)]
		}
		if c.Op == 5 && d.below(3) > 0 {
			c.Old = []string{"", "x", "y"}[d.below(3)]
		}
		if d.below(20) == 0 {
			c = spoiledCommand(d, c)
		}
		index := []int{d.below(20), d.below(100001), 99998 + d.below(5), d.below(3) - 1}[d.below(4)]
		if _, _, ok := wantPlainAct(t, "drawn", m, index, c); ok {
			right++
		}
	}
	if right < acts/3 || right > acts*9/10 {
		t.Errorf("%d of the acts are right", right)
	}
}

func pairsWithRoom(m []impl.Pair) []impl.Pair {
	room := append(slices.Clone(m), mapOf("room", "1", "room", "2", "room", "3", "room", "4")...)
	return room[:len(m)]
}

func actsToKeep() []impl.Command {
	return append(slices.Collect(maps.Values(ofEachOp())), getOf(1, 1, "a"), getOf(1, 0, "a"), getOf(1, 9, "a"), getOf(9, 1, "a"),
		getOf(1, 2, "b"), cutOf(1, 2, "zz"), swapOf(1, 2, "a", "y", "z"), swapOf(1, 2, "zzz", "y", ""), putOf(1, 2, "\xff", ""), getOf(2, 4, "a"), impl.Command{})
}

func TestArgumentsOfActsStay(t *testing.T) {
	states := map[string][]impl.Pair{
		"ordinary": aState(),
		"full":     stateWith(aState(), "s3", "1 4 put"),
		"spoiled":  stateWith(aState(), "s2", "spoiled"),
		"unsorted": mapOf("s1", "1 7 put", "ka", "x"),
		"nothing":  nil,
	}
	for why, own := range states {
		for _, c := range actsToKeep() {
			m := pairsWithRoom(own)
			before := fmt.Sprint(m[:cap(m)])
			impl.Act(m, 9, c)
			if fmt.Sprint(m[:cap(m)]) != before {
				t.Errorf("%s: Act of %v makes %v of %v", why, c, m[:cap(m)], before)
			}
		}
	}
}

func overwritePairs(list []impl.Pair) {
	for i := range list[:cap(list)] {
		list[:cap(list)][i] = impl.Pair{Key: "turned", Value: "turned"}
	}
}

func TestAnswersOfActsAreNewMemory(t *testing.T) {
	for _, c := range actsToKeep() {
		fresh := newWords(pairTexts(aState())...)
		m := mapOf(fresh...)
		words := newWords(c.Key, c.Value, c.Old)
		own := c
		own.Key, own.Value, own.Old = words[0], words[1], words[2]
		first, reply, _ := impl.Act(m, 9, own)
		wantOwn(t, "Act", append(pairTexts(first), reply), append(fresh, words...))
		second, _, _ := impl.Act(m, 9, own)
		want, _, _ := plainAct(aState(), 9, c)
		overwritePairs(first)
		if !slices.Equal(second, want) || !slices.Equal(m, aState()) {
			t.Errorf("Act of %v answers a list that it keeps, or that came in: %v", c, second)
		}
	}
}

func TestAnswersOfCommandsAreNewMemory(t *testing.T) {
	for why, c := range rightCommands() {
		text := strings.Clone(plainCommandText(c))
		again, _ := impl.ReadCommand(text)
		wantOwn(t, why, []string{again.Key, again.Value, again.Old}, []string{text})
		words := newWords(c.Key, c.Value, c.Old)
		c.Key, c.Value, c.Old = words[0], words[1], words[2]
		told, _ := impl.CommandText(c)
		wantOwn(t, why, []string{told}, words)
	}
}

func TestNoPairsAreTheSameValue(t *testing.T) {
	for _, c := range actsToKeep() {
		n, r, ok := impl.Act(nil, 9, c)
		other, reply, right := impl.Act([]impl.Pair{}, 9, c)
		if ok != right || r != reply || !slices.Equal(n, other) {
			t.Errorf("Act of %v on nil: %v, %q, %v; on an empty list: %v, %q, %v", c, n, r, ok, other, reply, right)
		}
	}
}

func TestSessionsAnswerTheSameEachTime(t *testing.T) {
	for _, c := range actsToKeep() {
		state, reply, ok := impl.Act(aState(), 9, c)
		for range 20 {
			again, said, right := impl.Act(aState(), 9, c)
			if right != ok || said != reply || !slices.Equal(again, state) {
				t.Errorf("Act of %v = %v, %q, %v, and then %v, %q, %v", c, state, reply, ok, again, said, right)
			}
		}
	}
}

func TestManySessionsAtOnce(t *testing.T) {
	m := aState()
	var all sync.WaitGroup
	for range 8 {
		all.Go(func() {
			for range 20 {
				for _, c := range actsToKeep() {
					state, reply, ok := impl.Act(m, 9, c)
					want, said, right := plainAct(m, 9, c)
					if ok != right || reply != said || !slices.Equal(state, want) {
						t.Errorf("at once: Act of %v = %v, %q, %v", c, state, reply, ok)
					}
					text, _ := impl.CommandText(c)
					if again, right := impl.ReadCommand(text); right && again != c {
						t.Errorf("at once: ReadCommand(%q) = %v", text, again)
					}
				}
			}
		})
	}
	all.Wait()
}
