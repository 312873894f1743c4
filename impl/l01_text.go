package impl

import (
	"strconv"
	"strings"
)

const (
	MaxInputLen      = 20000
	MaxUint          = 1000000000
	MaxLineLen       = 600
	MaxFieldsPerLine = 24
)

const (
	hexDigits     = "0123456789abcdef"
	firstLineByte = 32
	lastLineByte  = 126
)

func EncodeHex(s string) (string, bool) {
	if len(s) > MaxInputLen {
		return "", false
	}
	text := make([]byte, 0, 2*len(s))
	for i := range len(s) {
		text = append(text, hexDigits[s[i]>>4], hexDigits[s[i]&15])
	}
	return string(text), true
}

func DecodeHex(s string) (string, bool) {
	if len(s)%2 != 0 || len(s) > 2*MaxInputLen {
		return "", false
	}
	decoded := make([]byte, 0, len(s)/2)
	for i := 0; i < len(s); i += 2 {
		high := strings.IndexByte(hexDigits, s[i])
		low := strings.IndexByte(hexDigits, s[i+1])
		if high < 0 || low < 0 {
			return "", false
		}
		decoded = append(decoded, byte(16*high+low))
	}
	return string(decoded), true
}

func FormatInt(n int) string { return strconv.Itoa(n) }

func ParseUint(s string) (int, bool) {
	n, err := strconv.Atoi(s)
	if err != nil || n < 0 || n > MaxUint {
		return 0, false
	}
	// Atoi also reads a plus sign, leading zeros and "-0".
	if FormatInt(n) != s {
		return 0, false
	}
	return n, true
}

func SplitFields(line string) ([]string, bool) {
	if len(line) > MaxLineLen {
		return nil, false
	}
	fields := []string{}
	start, valid := 0, true
scan:
	for i := range len(line) {
		switch b := line[i]; {
		case b < firstLineByte || b > lastLineByte:
			valid = false
			break scan
		case b == ' ':
			fields = appendField(fields, line[start:i])
			start = i + 1
		}
	}
	if !valid {
		return nil, false
	}
	fields = appendField(fields, line[start:])
	if len(fields) > MaxFieldsPerLine {
		return nil, false
	}
	return fields, true
}

// appendField drops the empty text before, after and between spaces.
func appendField(fields []string, field string) []string {
	if field == "" {
		return fields
	}
	return append(fields, field)
}

func Clamp(n int, low int, high int) int {
	// low is applied last, because it also wins over a smaller high.
	return max(low, min(n, high))
}
