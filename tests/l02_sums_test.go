package tests

import (
	"strings"
	"sync"
	"testing"

	"loop.example/g00103/impl"
)

// plainSum follows the document's rule bit by bit.
func plainSum(sum uint32, text string) uint32 {
	for at := 0; at < len(text); at++ {
		sum ^= uint32(text[at])
		for bit := 0; bit < 8; bit++ {
			odd := sum%2 == 1
			sum /= 2
			if odd {
				sum ^= 3558460437
			}
		}
	}
	return sum
}

// sumsToTry has the ends, each bit alone, each bit amiss, and some mixed ones.
func sumsToTry() []uint32 {
	list := []uint32{0, 1, 2, 255, 256, 65535, 65536, 2147483647, 2147483648, 3558460437, 4294967294, 4294967295, 305419896, 3735928559}
	for bit := 0; bit < 32; bit++ {
		list = append(list, 1<<bit, ^uint32(1<<bit))
	}
	return list
}

func textsToTry() []string {
	return []string{
		"", "\x00", "\x01", "\x80", "\xff", "a", "abc", "abd", "bac", "\x00\x00", "\x00\x00\x00\x00\x00",
		"\xff\xff\xff\xff", "123456789", "key=value", "Ωmega", allBytes(), strings.Repeat("x", 1000),
	}
}

func TestSumMoreOfEachByte(t *testing.T) {
	for _, sum := range sumsToTry() {
		for b := 0; b < 256; b++ {
			text := string([]byte{byte(b)})
			if got, want := impl.SumMore(sum, text), plainSum(sum, text); got != want {
				t.Errorf("SumMore(%d, %q) = %d; want %d", sum, text, got, want)
			}
		}
	}
}

func TestSumMoreOfTexts(t *testing.T) {
	for _, sum := range sumsToTry() {
		for _, text := range textsToTry() {
			if got, want := impl.SumMore(sum, text), plainSum(sum, text); got != want {
				t.Errorf("SumMore(%d, %q) = %d; want %d", sum, text, got, want)
			}
		}
	}
	long := strings.Repeat(allBytes(), 100)
	if got, want := impl.SumMore(7, long), plainSum(7, long); got != want {
		t.Errorf("SumMore of %d bytes = %d; want %d: no limit is named for it", len(long), got, want)
	}
}

func TestSumMoreOfNothing(t *testing.T) {
	for _, sum := range sumsToTry() {
		if got := impl.SumMore(sum, ""); got != sum {
			t.Errorf("SumMore(%d, \"\") = %d", sum, got)
		}
	}
}

// The figures are worked out from the rule by hand, not by plainSum.
func TestSumsByHand(t *testing.T) {
	for _, c := range []struct {
		sum  uint32
		text string
		want uint32
	}{
		{0, "\x00", 0},
		{0, "\x80", 3558460437},
		{128, "\x00", 3558460437},
		{256, "\x00", 1},
		{4294967295, "\xff", 16777215},
		{4278190335, "\xff", 16711680},
		{0, "\x40", 3558460437/2 ^ 3558460437},
	} {
		if got := impl.SumMore(c.sum, c.text); got != c.want {
			t.Errorf("SumMore(%d, %q) = %d; want %d", c.sum, c.text, got, c.want)
		}
	}
}

func TestSumOfTexts(t *testing.T) {
	if got := impl.SumOf(""); got != 4294967295 {
		t.Errorf("SumOf nothing = %d", got)
	}
	for _, text := range textsToTry() {
		if got, want := impl.SumOf(text), plainSum(4294967295, text); got != want {
			t.Errorf("SumOf(%q) = %d; want %d", text, got, want)
		}
	}
}

func TestSumMoreGoesOnWhereSumOfStopped(t *testing.T) {
	for _, first := range textsToTry() {
		for _, more := range textsToTry() {
			if got, want := impl.SumMore(impl.SumOf(first), more), impl.SumOf(first+more); got != want {
				t.Errorf("SumMore(SumOf(%q), %q) = %d; SumOf both = %d", first, more, got, want)
			}
		}
	}
	whole := allBytes()
	for at := 0; at <= len(whole); at++ {
		if got, want := impl.SumMore(impl.SumOf(whole[:at]), whole[at:]), impl.SumOf(whole); got != want {
			t.Errorf("cut at %d: %d; want %d", at, got, want)
		}
	}
}

// wantOneSum holds what SumMore looks up in its table against what the other
// functions work out.
func wantOneSum(t *testing.T, text string) {
	t.Helper()
	want := impl.SumMore(4294967295, text)
	if got := impl.SumOf(text); got != want {
		t.Errorf("SumOf(%q) = %d; SumMore = %d", text, got, want)
	}
	seal := string([]byte{byte(want >> 24), byte(want >> 16), byte(want >> 8), byte(want)})
	if s, ok := impl.Sealed(text); !ok || s != text+seal {
		t.Errorf("Sealed(%q) = %q, %v; by SumMore it ends with %q", text, s, ok, seal)
	}
	if u, ok := impl.Unsealed(text + seal); !ok || u != text {
		t.Errorf("Unsealed(%q and its SumMore) = %q, %v", text, u, ok)
	}
}

func TestTableAndFunctionTellTheSameSums(t *testing.T) {
	for b := range 256 {
		wantOneSum(t, string([]byte{byte(b)}))
		wantOneSum(t, string([]byte{byte(b), 0, byte(255 - b)}))
	}
	for first := range 256 {
		for second := range 256 {
			wantOneSum(t, string([]byte{byte(first), byte(second)}))
		}
	}
	for _, text := range textsToTry() {
		wantOneSum(t, text)
		for _, more := range textsToTry() {
			wantOneSum(t, text+more)
		}
	}
	wantOneSum(t, strings.Repeat(allBytes(), 79)[:impl.MaxText-1])
	wantOneSum(t, strings.Repeat(allBytes(), 79)[:impl.MaxText])
}

// The table is filled once, whoever comes first.
func TestSumsOfManyAtOnce(t *testing.T) {
	got := make([]uint32, 32)
	var all sync.WaitGroup
	for i := range got {
		all.Add(1)
		go func() {
			defer all.Done()
			got[i] = impl.SumOf("abc")
		}()
	}
	all.Wait()
	for i, sum := range got {
		if sum != plainSum(4294967295, "abc") {
			t.Errorf("the sum %d of many = %d", i, sum)
		}
	}
}

// plainSealed is the rule of Sealed without its limit.
func plainSealed(text string) string {
	sum := plainSum(4294967295, text)
	return text + string([]byte{byte(sum / 16777216), byte(sum / 65536 % 256), byte(sum / 256 % 256), byte(sum % 256)})
}

func TestSealedBytes(t *testing.T) {
	if s, ok := impl.Sealed(""); !ok || s != "\xff\xff\xff\xff" {
		t.Errorf("Sealed nothing = %q, %v", s, ok)
	}
	// From 4294967295 and the byte 255 the eight halvings meet no odd number.
	if s, ok := impl.Sealed("\xff"); !ok || s != "\xff\x00\xff\xff\xff" {
		t.Errorf("Sealed(%q) = %q, %v: the highest byte stands first", "\xff", s, ok)
	}
	for _, text := range textsToTry() {
		if s, ok := impl.Sealed(text); !ok || s != plainSealed(text) {
			t.Errorf("Sealed(%q) = %q, %v; want %q", text, s, ok, plainSealed(text))
		}
	}
}

func TestSealedIsUnsealed(t *testing.T) {
	for _, text := range append(textsToTry(), strings.Repeat("y", 19999), strings.Repeat("\x00", 20000)) {
		s, ok := impl.Sealed(text)
		if u, right := impl.Unsealed(s); !ok || !right || u != text {
			t.Errorf("Unsealed of Sealed a text of %d bytes = a text of %d, %v", len(text), len(u), right)
		}
	}
}

func TestSealLimits(t *testing.T) {
	most := strings.Repeat("m", 20000)
	if s, ok := impl.Sealed(most); !ok || s != plainSealed(most) {
		t.Errorf("a text of MaxText bytes: %d bytes, %v", len(s), ok)
	}
	if u, ok := impl.Unsealed(plainSealed(most)); !ok || u != most {
		t.Errorf("a sealed text of MaxText + 4 bytes: %d bytes, %v", len(u), ok)
	}
	for _, size := range []int{20001, 20004, 40000} {
		over := strings.Repeat("m", size)
		if s, ok := impl.Sealed(over); ok || s != "" {
			t.Errorf("Sealed of %d bytes = %d bytes, %v", size, len(s), ok)
		}
		if u, ok := impl.Unsealed(plainSealed(over)); ok || u != "" {
			t.Errorf("Unsealed of %d bytes and their right sum = %d bytes, %v", size, len(u), ok)
		}
	}
}

func wantNotSealed(t *testing.T, text string) {
	t.Helper()
	if u, ok := impl.Unsealed(text); ok || u != "" {
		t.Errorf("Unsealed(%q) = %q, %v; want none", text, u, ok)
	}
}

func TestUnsealedOfShortTexts(t *testing.T) {
	for _, text := range []string{"", "\x00", "\xff", "\xff\xff", "\xff\xff\xff", "abc", "\x00\x00\x00\x00", "abcd", "\xff\xff\xff\xfe", "\x7f\xff\xff\xff"} {
		wantNotSealed(t, text)
	}
	if u, ok := impl.Unsealed("\xff\xff\xff\xff"); !ok || u != "" {
		t.Errorf("Unsealed of the sealed nothing = %q, %v", u, ok)
	}
}

func TestUnsealedTellsAByteTurned(t *testing.T) {
	for _, text := range []string{"", "\x00", "\xff", "abc", "key=value", "\x00\x00\x00\x00", allBytes()} {
		right := plainSealed(text)
		for at := range len(right) {
			for turn := 1; turn < 256; turn++ {
				bytes := []byte(right)
				bytes[at] ^= byte(turn)
				wantNotSealed(t, string(bytes))
			}
		}
	}
}

func TestUnsealedTellsAByteTurnedInALongText(t *testing.T) {
	right := plainSealed(strings.Repeat("long", 5000))
	for _, at := range []int{0, 1, 9999, 19998, 19999, 20000, 20003} {
		for turn := 1; turn < 256; turn++ {
			bytes := []byte(right)
			bytes[at] ^= byte(turn)
			if u, ok := impl.Unsealed(string(bytes)); ok || u != "" {
				t.Errorf("byte %d turned by %d: Unsealed answers %d bytes, %v", at, turn, len(u), ok)
			}
		}
	}
}

func TestUnsealedOfWrongTexts(t *testing.T) {
	for _, text := range []string{"\x00", "\xff", "a", "abc", "key=value", "123456789", allBytes()} {
		right := plainSealed(text)
		end := len(text)
		wantNotSealed(t, right[:len(right)-1])
		wantNotSealed(t, right[1:])
		wantNotSealed(t, text+string([]byte{right[end+3], right[end+2], right[end+1], right[end]}))
		for b := 0; b < 256; b++ {
			wantNotSealed(t, right+string([]byte{byte(b)}))
		}
	}
}

func TestAnswersOfSumsAreNewMemory(t *testing.T) {
	text := strings.Clone("hello")
	s, _ := impl.Sealed(text)
	if within(s, text) {
		t.Error("Sealed answers its argument")
	}
	if u, _ := impl.Unsealed(s); within(u, s) {
		t.Error("Unsealed answers a piece of its argument")
	}
}
