package impl

import (
	"strconv"
	"strings"
)

const (
	MaxText   = 20000
	MaxNumber = 1000000000
	MaxWords  = 600
	MaxParts  = 10
)

// MaxNumber is below 2 to the 35th: no VarText has more bytes.
const maxVarBytes = 5

const hexFigures = "0123456789abcdef"

func VarText(n int) (string, bool) {
	if n < 0 || n > MaxNumber {
		return "", false
	}
	text := make([]byte, 0, maxVarBytes)
	for n > 127 {
		text = append(text, byte(n%128+128))
		n /= 128
	}
	return string(append(text, byte(n))), true
}

func ReadVar(text string, at int) (int, int, bool) {
	if at < 0 || at > len(text) {
		return 0, 0, false
	}
	n := 0
	for i := 0; i < maxVarBytes && at+i < len(text); i++ {
		b := int(text[at+i])
		n += (b % 128) << (7 * i)
		if b > 127 {
			continue
		}
		// A last byte of 0 adds nothing: the same number has a shorter form.
		longer := i > 0 && b == 0
		if longer || n > MaxNumber {
			return 0, 0, false
		}
		return n, at + i + 1, true
	}
	return 0, 0, false
}

func ShortText(s string) (string, bool) {
	if len(s) > MaxText {
		return "", false
	}
	size, ok := VarText(len(s))
	return size + s, ok
}

func ReadShort(text string, at int) (string, int, bool) {
	size, begin, ok := ReadVar(text, at)
	if !ok || size > MaxText || size > len(text)-begin {
		return "", 0, false
	}
	end := begin + size
	// A piece of text would share its memory.
	return strings.Clone(text[begin:end]), end, true
}

func Hex(text string) (string, bool) {
	if len(text) > MaxText {
		return "", false
	}
	figures := make([]byte, 0, 2*len(text))
	for at := range len(text) {
		b := text[at]
		figures = append(figures, hexFigures[b/16], hexFigures[b%16])
	}
	return string(figures), true
}

func Unhex(text string) (string, bool) {
	if len(text)%2 != 0 || len(text) > 2*MaxText {
		return "", false
	}
	whole := make([]byte, 0, len(text)/2)
	high := 0
figures:
	for at := range len(text) {
		half := strings.IndexByte(hexFigures, text[at])
		switch {
		case half < 0:
			break figures
		case at%2 == 0:
			high = half
		default:
			whole = append(whole, byte(16*high+half))
		}
	}
	if 2*len(whole) < len(text) {
		return "", false
	}
	return string(whole), true
}

func Decimal(n int) string { return strconv.Itoa(n) }

func ReadDecimal(text string) (int, bool) {
	n := 0
	read := 0
figures:
	for at := range len(text) {
		figure := int(text[at]) - '0'
		switch {
		case figure < 0 || figure > 9:
			break figures
		case at > 0 && n == 0:
			// Something stands behind a nought: that nought is needless.
			break figures
		case 10*n+figure > MaxNumber:
			break figures
		}
		n = 10*n + figure
		read++
	}
	if read == 0 || read < len(text) {
		return 0, false
	}
	return n, true
}

func PartsOf(line string) ([]string, bool) {
	if len(line) > MaxWords || !plainBytes(line) {
		return nil, false
	}
	var parts []string
	for at := skipBlanks(line, 0); at < len(line); {
		end := partEnd(line, at)
		// A piece of line would share its memory.
		parts = append(parts, strings.Clone(line[at:end]))
		at = skipBlanks(line, end)
	}
	if len(parts) > MaxParts {
		return nil, false
	}
	return parts, true
}

func plainBytes(line string) bool {
	for at := range len(line) {
		if line[at] < 32 || line[at] > 126 {
			return false
		}
	}
	return true
}

func skipBlanks(line string, at int) int {
	for at < len(line) && line[at] == ' ' {
		at++
	}
	return at
}

func partEnd(line string, at int) int {
	for at < len(line) && line[at] != ' ' {
		at++
	}
	return at
}
