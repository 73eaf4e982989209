package tests

import (
	"math"
	"slices"
	"strconv"
	"strings"
	"testing"
	"unsafe"

	"loop.example/g00103/impl"
)

func TestWordLimits(t *testing.T) {
	if impl.MaxText != 20000 || impl.MaxNumber != 1000000000 || impl.MaxWords != 600 || impl.MaxParts != 10 {
		t.Error("a limit is not the document's")
	}
}

func TestVarTextBytes(t *testing.T) {
	for _, c := range []struct {
		n    int
		text string
	}{
		{0, "\x00"},
		{1, "\x01"},
		{127, "\x7f"},
		{128, "\x80\x01"},
		{129, "\x81\x01"},
		{255, "\xff\x01"},
		{300, "\xac\x02"},
		{16383, "\xff\x7f"},
		{16384, "\x80\x80\x01"},
		{2097151, "\xff\xff\x7f"},
		{2097152, "\x80\x80\x80\x01"},
		{268435455, "\xff\xff\xff\x7f"},
		{268435456, "\x80\x80\x80\x80\x01"},
		{999999999, "\xff\x93\xeb\xdc\x03"},
		{1000000000, "\x80\x94\xeb\xdc\x03"},
	} {
		if text, ok := impl.VarText(c.n); !ok || text != c.text {
			t.Errorf("VarText(%d) = %q, %v; want %q", c.n, text, ok, c.text)
		}
		if n, behind, ok := impl.ReadVar(c.text, 0); !ok || n != c.n || behind != len(c.text) {
			t.Errorf("ReadVar(%q, 0) = %d, %d, %v; want %d", c.text, n, behind, ok, c.n)
		}
	}
}

func TestVarTextRefuses(t *testing.T) {
	for _, n := range []int{-1, -127, -128, math.MinInt, 1000000001, 1 << 32, 1 << 35, math.MaxInt} {
		if text, ok := impl.VarText(n); ok || text != "" {
			t.Errorf("VarText(%d) = %q, %v; want none", n, text, ok)
		}
	}
}

// numbersToTry has every small number, and those about each power of two and each limit.
func numbersToTry() []int {
	var list []int
	for n := range 20000 {
		list = append(list, n)
	}
	for power := 1 << 14; power <= impl.MaxNumber; power *= 2 {
		list = append(list, power-1, power, power+1)
	}
	for n := 77; n <= impl.MaxNumber; n += 1000003 {
		list = append(list, n)
	}
	return append(list, impl.MaxNumber-1, impl.MaxNumber)
}

func TestVarTextIsReadBack(t *testing.T) {
	for _, want := range numbersToTry() {
		text, ok := impl.VarText(want)
		if !ok {
			t.Fatalf("VarText(%d) is refused", want)
		}
		n, behind, ok := impl.ReadVar("\xff"+text+"\x05", 1)
		if !ok || n != want || behind != 1+len(text) {
			t.Fatalf("ReadVar of VarText(%d) = %d, %d, %v", want, n, behind, ok)
		}
	}
}

func TestReadVarRefuses(t *testing.T) {
	for _, c := range []struct {
		why  string
		text string
		at   int
	}{
		{"nothing there", "", 0},
		{"below the beginning", "\x01", -1},
		{"the least place", "\x01", math.MinInt},
		{"at the end", "\x01", 1},
		{"past the end", "\x01", 2},
		{"past the end of nothing", "", 1},
		{"the greatest place", "\x01", math.MaxInt},
		{"0 in two bytes", "\x80\x00", 0},
		{"127 in two bytes", "\xff\x00", 0},
		{"128 in three bytes", "\x80\x81\x00", 0},
		{"1 in five bytes", "\x81\x80\x80\x80\x00", 0},
		{"1 in six bytes", "\x81\x80\x80\x80\x80\x00", 0},
		{"MaxNumber in six bytes", "\x80\x94\xeb\xdc\x83\x00", 0},
		{"breaks off behind one byte", "\x80", 0},
		{"breaks off behind four bytes", "\x80\x94\xeb\xdc", 0},
		{"MaxNumber and one more", "\x81\x94\xeb\xdc\x03", 0},
		{"far above MaxNumber in five bytes", "\xff\xff\xff\xff\x7f", 0},
		{"six bytes", "\x80\x80\x80\x80\x80\x01", 0},
		{"as many bytes as an int has room for", "\xff\xff\xff\xff\xff\xff\xff\xff\x7f", 0},
		{"past the room of an int", "\x80\x80\x80\x80\x80\x80\x80\x80\x80\x01", 0},
		{"1, and bits that an int drops", "\x81\x80\x80\x80\x80\x80\x80\x80\x80\x80\x01", 0},
		{"no end", strings.Repeat("\x80", 100), 0},
	} {
		if n, behind, ok := impl.ReadVar(c.text, c.at); ok || n != 0 || behind != 0 {
			t.Errorf("%s: ReadVar(%q, %d) = %d, %d, %v; want none", c.why, c.text, c.at, n, behind, ok)
		}
	}
}

// plainReadVar reads as the document says it: the number whose VarText stands there.
func plainReadVar(text string, at int) (int, int, bool) {
	n, power := 0, 1
	for end := at + 1; end <= len(text) && end <= at+5; end++ {
		n += int(text[end-1]%128) * power
		power *= 128
		if own, ok := impl.VarText(n); ok && own == text[at:end] {
			return n, end, true
		}
	}
	return 0, 0, false
}

func TestReadVarAtEveryText(t *testing.T) {
	bytes := []byte{0, 1, 3, 127, 128, 129, 0xdc, 255}
	texts := []string{""}
	for begin, size := 0, 1; size <= 6; size++ {
		end := len(texts)
		for _, text := range texts[begin:end] {
			for _, b := range bytes {
				texts = append(texts, text+string([]byte{b}))
			}
		}
		begin = end
	}
	for _, text := range texts {
		n, behind, ok := impl.ReadVar(text, 0)
		if wn, wb, wok := plainReadVar(text, 0); n != wn || behind != wb || ok != wok {
			t.Fatalf("ReadVar(%q, 0) = %d, %d, %v; want %d, %d, %v", text, n, behind, ok, wn, wb, wok)
		}
	}
}

func TestShortTextBytes(t *testing.T) {
	for _, c := range []struct{ s, text string }{
		{"", "\x00"},
		{"a", "\x01a"},
		{"\x00", "\x01\x00"},
		{"\xff\x80", "\x02\xff\x80"},
		{strings.Repeat("x", 127), "\x7f" + strings.Repeat("x", 127)},
		{strings.Repeat("x", 128), "\x80\x01" + strings.Repeat("x", 128)},
		{strings.Repeat("y", impl.MaxText), "\xa0\x9c\x01" + strings.Repeat("y", impl.MaxText)},
	} {
		text, ok := impl.ShortText(c.s)
		if !ok || text != c.text {
			t.Errorf("ShortText of %d bytes = %d bytes, %v", len(c.s), len(text), ok)
		}
		s, behind, ok := impl.ReadShort("\x80"+c.text+"z", 1)
		if !ok || s != c.s || behind != 1+len(c.text) {
			t.Errorf("ReadShort of %d bytes = %d bytes, %d, %v", len(c.s), len(s), behind, ok)
		}
	}
	if text, ok := impl.ShortText(strings.Repeat("y", impl.MaxText+1)); ok || text != "" {
		t.Errorf("ShortText of one byte too many = %d bytes, %v", len(text), ok)
	}
}

func TestShortTextIsReadBack(t *testing.T) {
	for size := 0; size <= impl.MaxText; size += 1 + size/9 {
		want := strings.Repeat("\x00\xc8k", size/3+1)[:size]
		text, ok := impl.ShortText(want)
		s, behind, right := impl.ReadShort(text+text, len(text))
		if !ok || !right || s != want || behind != 2*len(text) {
			t.Fatalf("a text of %d bytes is not read back", size)
		}
	}
}

func TestReadShortRefuses(t *testing.T) {
	for _, c := range []struct {
		why  string
		text string
		at   int
	}{
		{"nothing there", "", 0},
		{"below the beginning", "\x00", -1},
		{"the least place", "\x00", math.MinInt},
		{"at the end", "\x00", 1},
		{"past the end", "\x00", 2},
		{"the greatest place", "\x00", math.MaxInt},
		{"a byte too few", "\x03ab", 0},
		{"no byte at all", "\x01", 0},
		{"a byte too few from a place on", "\x02ab\x02c", 3},
		{"a longer form of the length", "\x81\x00a", 0},
		{"a longer form of no length", "\x80\x00", 0},
		{"a length that breaks off", "\x80", 0},
		{"longer than MaxText", "\xa1\x9c\x01" + strings.Repeat("y", impl.MaxText+1), 0},
		{"far longer than MaxText", "\x80\x94\xeb\xdc\x03" + strings.Repeat("y", 100), 0},
	} {
		if s, behind, ok := impl.ReadShort(c.text, c.at); ok || s != "" || behind != 0 {
			t.Errorf("%s: ReadShort = %q, %d, %v; want none", c.why, s, behind, ok)
		}
	}
}

func allBytes() string {
	list := make([]byte, 256)
	for b := range list {
		list[b] = byte(b)
	}
	return string(list)
}

func TestHexFigures(t *testing.T) {
	for _, c := range []struct{ text, figures string }{
		{"", ""},
		{"\x00", "00"},
		{"\x0f\xf0", "0ff0"},
		{"\x9a\xbc\xde", "9abcde"},
		{"Az \xff", "417a20ff"},
	} {
		if figures, ok := impl.Hex(c.text); !ok || figures != c.figures {
			t.Errorf("Hex(%q) = %q, %v; want %q", c.text, figures, ok, c.figures)
		}
		if text, ok := impl.Unhex(c.figures); !ok || text != c.text {
			t.Errorf("Unhex(%q) = %q, %v; want %q", c.figures, text, ok, c.text)
		}
	}
}

func TestHexIsReadBack(t *testing.T) {
	for _, want := range []string{allBytes(), strings.Repeat("\xfe", impl.MaxText-1), strings.Repeat("\x01", impl.MaxText)} {
		figures, ok := impl.Hex(want)
		text, right := impl.Unhex(figures)
		if !ok || !right || len(figures) != 2*len(want) || text != want {
			t.Errorf("a text of %d bytes is not read back", len(want))
		}
	}
}

func TestHexRefuses(t *testing.T) {
	if figures, ok := impl.Hex(strings.Repeat("a", impl.MaxText+1)); ok || figures != "" {
		t.Errorf("Hex of one byte too many = %d bytes, %v", len(figures), ok)
	}
	for _, text := range []string{
		"0", "abc", "A0", "0A", "fF", "0g", "g0", "  ", "0 ", "-1", "0x", "00x0", "000x", "x000", "0x00",
		"\x00\x00", "\xff0", "0\xff", "::", "//", "``", "0:", "/0", "`0", "12\n",
		strings.Repeat("0", 2*impl.MaxText+1), strings.Repeat("0", 2*impl.MaxText+2),
	} {
		if whole, ok := impl.Unhex(text); ok || whole != "" {
			t.Errorf("Unhex(%.20q) = %.20q, %v; want none", text, whole, ok)
		}
	}
}

func TestUnhexOfEveryPairOfBytes(t *testing.T) {
	known := map[string]byte{}
	for b := range 256 {
		figures := strconv.FormatInt(int64(b), 16)
		known[strings.Repeat("0", 2-len(figures))+figures] = byte(b)
	}
	for high := range 256 {
		for low := range 256 {
			pair := string([]byte{byte(high), byte(low)})
			want, wok := known[pair]
			text, ok := impl.Unhex(pair)
			if ok != wok || ok && text != string([]byte{want}) || !ok && text != "" {
				t.Fatalf("Unhex(%q) = %q, %v", pair, text, ok)
			}
		}
	}
}

func TestDecimalFigures(t *testing.T) {
	for _, c := range []struct {
		n       int
		figures string
	}{
		{0, "0"},
		{7, "7"},
		{10, "10"},
		{100, "100"},
		{-1, "-1"},
		{-10, "-10"},
		{1000000000, "1000000000"},
		{1000000001, "1000000001"},
		{-1000000000, "-1000000000"},
		{math.MaxInt, "9223372036854775807"},
		{math.MinInt, "-9223372036854775808"},
	} {
		if figures := impl.Decimal(c.n); figures != c.figures {
			t.Errorf("Decimal(%d) = %q", c.n, figures)
		}
	}
}

func TestDecimalIsReadBack(t *testing.T) {
	for _, want := range numbersToTry() {
		if n, ok := impl.ReadDecimal(impl.Decimal(want)); !ok || n != want {
			t.Fatalf("ReadDecimal of Decimal(%d) = %d, %v", want, n, ok)
		}
	}
}

func TestReadDecimalRefuses(t *testing.T) {
	for _, text := range []string{
		"", "-", "-0", "-1", "+1", "+", "00", "01", "007", "000", "0a", " 1", "1 ", "1 2", "a", "1a", "a1", "1.0", "1e3", "0x1", "1_0",
		"1000000001", "9999999999", "10000000000", "01000000000", "18446744073709551616", "18446744073709551617",
		"9223372036854775807", "-9223372036854775808", "1\x00", "\x00", "1\n", "/", ":", "1/", "1:", "٣", "\xff",
		strings.Repeat("0", 40), strings.Repeat("9", 40), strings.Repeat("1", impl.MaxText+1),
	} {
		if n, ok := impl.ReadDecimal(text); ok || n != 0 {
			t.Errorf("ReadDecimal(%.30q) = %d, %v; want none", text, n, ok)
		}
	}
	for text, want := range map[string]int{"0": 0, "1": 1, "10": 10, "999999999": 999999999, "1000000000": 1000000000} {
		if n, ok := impl.ReadDecimal(text); !ok || n != want {
			t.Errorf("ReadDecimal(%q) = %d, %v", text, n, ok)
		}
	}
}

func TestReadDecimalOfEveryShortText(t *testing.T) {
	known := map[string]int{}
	for n := range 100 {
		known[strconv.Itoa(n)] = n
	}
	for first := range 256 {
		for second := range 257 {
			text := string([]byte{byte(first), byte(second)})
			if second == 256 {
				text = text[:1]
			}
			want, wok := known[text]
			if n, ok := impl.ReadDecimal(text); n != want || ok != wok {
				t.Fatalf("ReadDecimal(%q) = %d, %v; want %d, %v", text, n, ok, want, wok)
			}
		}
	}
}

func TestPartsOfLines(t *testing.T) {
	ten := []string{"a", "b", "c", "d", "e", "f", "g", "h", "i", "j"}
	for _, c := range []struct {
		line  string
		parts []string
	}{
		{"", nil},
		{" ", nil},
		{"    ", nil},
		{"a", []string{"a"}},
		{" a", []string{"a"}},
		{"a ", []string{"a"}},
		{"tick 1 2", []string{"tick", "1", "2"}},
		{"   put  1   2 ", []string{"put", "1", "2"}},
		{"~ ! # -", []string{"~", "!", "#", "-"}},
		{"b a b", []string{"b", "a", "b"}},
		{strings.Join(ten, " "), ten},
		{"  " + strings.Join(ten, "   ") + "  ", ten},
		{strings.Repeat("w", impl.MaxWords), []string{strings.Repeat("w", impl.MaxWords)}},
		{strings.Repeat(" ", impl.MaxWords), nil},
		{strings.Repeat(" ", impl.MaxWords-1) + "x", []string{"x"}},
	} {
		parts, ok := impl.PartsOf(c.line)
		if !ok || !slices.Equal(parts, c.parts) {
			t.Errorf("PartsOf(%.40q) = %.40q, %v; want %.40q", c.line, parts, ok, c.parts)
		}
	}
}

func TestPartsOfRefuses(t *testing.T) {
	for _, line := range []string{
		strings.Repeat("w", impl.MaxWords+1),
		strings.Repeat(" ", impl.MaxWords+1),
		"x" + strings.Repeat(" ", impl.MaxWords),
		"a b c d e f g h i j k",
		" a b c d e f g h i j  k ",
		strings.Repeat("a ", 300),
	} {
		if parts, ok := impl.PartsOf(line); ok || len(parts) != 0 {
			t.Errorf("PartsOf(%.40q) = %q, %v; want none", line, parts, ok)
		}
	}
}

func TestPartsOfEveryByte(t *testing.T) {
	for b := range 256 {
		for _, line := range []string{string([]byte{byte(b)}), "ab " + string([]byte{byte(b)}), string([]byte{byte(b)}) + " ab"} {
			parts, ok := impl.PartsOf(line)
			if ok != (b >= 32 && b <= 126) {
				t.Errorf("PartsOf(%q) = %q, %v", line, parts, ok)
			}
			if !ok && len(parts) != 0 {
				t.Errorf("PartsOf(%q) has %q beside a false", line, parts)
			}
		}
	}
}

// within tells whether the bytes of piece lie among those of whole.
func within(piece, whole string) bool {
	if piece == "" || whole == "" {
		return false
	}
	from := uintptr(unsafe.Pointer(unsafe.StringData(whole)))
	at := uintptr(unsafe.Pointer(unsafe.StringData(piece)))
	return at >= from && at < from+uintptr(len(whole))
}

func TestAnswersOfWordsAreNewMemory(t *testing.T) {
	short := strings.Clone("\x05hello")
	if s, _, _ := impl.ReadShort(short, 0); within(s, short) {
		t.Error("ReadShort answers a piece of its argument")
	}
	line := strings.Clone("one two")
	parts, _ := impl.PartsOf(line)
	for _, part := range parts {
		if within(part, line) {
			t.Errorf("PartsOf answers a piece of its argument: %q", part)
		}
	}
	parts[0] = "changed"
	if again, _ := impl.PartsOf(line); again[0] != "one" {
		t.Error("PartsOf answers one list twice")
	}
}
