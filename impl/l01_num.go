package impl

import (
	"strconv"
	"strings"
)

const MaxVarint = 562949953421311

const (
	maxFixedWidth   = 7
	maxParsed       = 999999999
	maxVarintLength = 7
	varintGroup     = 7
	varintContinue  = 1 << varintGroup
	hexDigits       = "0123456789abcdef"
)

func isFixedWidth(width int) bool {
	return width >= 1 && width <= maxFixedWidth
}

func EncodeFixed(n int, width int) string {
	if !isFixedWidth(width) || n < 0 || n >= 1<<(8*width) {
		return ""
	}
	encoded := make([]byte, width)
	for i := width - 1; i >= 0; i-- {
		encoded[i] = byte(n)
		n >>= 8
	}
	return string(encoded)
}

func DecodeFixed(s string, width int) (int, bool) {
	if !isFixedWidth(width) || len(s) < width {
		return 0, false
	}
	n := 0
	for i := range width {
		n = n<<8 | int(s[i])
	}
	return n, true
}

func EncodeVarint(n int) string {
	if n < 0 || n > MaxVarint {
		return ""
	}
	var encoded []byte
	for n >= varintContinue {
		encoded = append(encoded, byte(n%varintContinue+varintContinue))
		n >>= varintGroup
	}
	return string(append(encoded, byte(n)))
}

func DecodeVarint(s string) (int, int) {
	n := 0
	for i := range min(len(s), maxVarintLength) {
		n |= int(s[i]%varintContinue) << (varintGroup * i)
		if s[i] < varintContinue {
			return canonicalVarint(n, s[:i+1])
		}
	}
	return 0, 0
}

// canonicalVarint refuses an encoding that is longer than necessary, which the encoder never produces.
func canonicalVarint(n int, encoded string) (int, int) {
	if EncodeVarint(n) != encoded {
		return 0, 0
	}
	return n, len(encoded)
}

func EncodeHex(s string) string {
	var encoded strings.Builder
	for i := range len(s) {
		encoded.WriteByte(hexDigits[s[i]>>4])
		encoded.WriteByte(hexDigits[s[i]&15])
	}
	return encoded.String()
}

func DecodeHex(s string) (string, bool) {
	if len(s)%2 != 0 {
		return "", false
	}
	var decoded strings.Builder
	for i := 0; i < len(s); i += 2 {
		high := strings.IndexByte(hexDigits, s[i])
		low := strings.IndexByte(hexDigits, s[i+1])
		if high < 0 || low < 0 {
			return "", false
		}
		decoded.WriteByte(byte(high<<4 | low))
	}
	return decoded.String(), true
}

func FormatInt(n int) string {
	return strconv.Itoa(n)
}

func ParseInt(s string) (int, bool) {
	n, err := strconv.Atoi(s)
	if err != nil || n < -maxParsed || n > maxParsed || FormatInt(n) != s {
		return 0, false
	}
	return n, true
}
