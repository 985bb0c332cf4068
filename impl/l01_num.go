package impl

import "strconv"

const MaxVarint = 562949953421311

const maxFixedWidth = 7

const maxVarintBytes = 7

const maxParsedDigits = 9

// EncodeFixed returns n as width bytes, most significant byte first, or the
// empty string if width or n is out of range.
func EncodeFixed(n int, width int) string {
	if width < 1 || width > maxFixedWidth || n < 0 || n>>(8*width) != 0 {
		return ""
	}
	out := make([]byte, width)
	for i := width - 1; i >= 0; i-- {
		out[i] = byte(n)
		n >>= 8
	}
	return string(out)
}

// DecodeFixed returns the number in the first width bytes of s.
func DecodeFixed(s string, width int) (int, bool) {
	if width < 1 || width > maxFixedWidth || len(s) < width {
		return 0, false
	}
	n := 0
	for i := range width {
		n = n<<8 | int(s[i])
	}
	return n, true
}

// EncodeVarint returns n as a varint without unnecessary bytes, or the empty
// string if n is not from 0 to MaxVarint.
func EncodeVarint(n int) string {
	if n < 0 || n > MaxVarint {
		return ""
	}
	out := make([]byte, 0, maxVarintBytes)
	for n >= 128 {
		out = append(out, byte(n%128+128))
		n /= 128
	}
	return string(append(out, byte(n)))
}

// DecodeVarint returns the number whose varint begins s and the length of that
// varint, or 0 and 0 if there is none.
func DecodeVarint(s string) (int, int) {
	n := 0
	for i := range min(len(s), maxVarintBytes) {
		n |= int(s[i]&127) << (7 * i)
		if s[i] >= 128 {
			continue
		}
		// A last byte of 0 behind other bytes adds nothing to the number, so
		// EncodeVarint would not have written it.
		if s[i] == 0 && i > 0 {
			return 0, 0
		}
		return n, i + 1
	}
	return 0, 0
}

// EncodeHex returns two lowercase hexadecimal digits for each byte of s.
func EncodeHex(s string) string {
	const digits = "0123456789abcdef"
	out := make([]byte, 0, 2*len(s))
	for i := range len(s) {
		out = append(out, digits[s[i]>>4], digits[s[i]&15])
	}
	return string(out)
}

// DecodeHex returns the string for which EncodeHex returns s.
func DecodeHex(s string) (string, bool) {
	if len(s)%2 != 0 {
		return "", false
	}
	out := make([]byte, len(s)/2)
	// Every valid digit is one byte long, so i is the digit's number as long
	// as the loop goes on.
	for i, r := range s {
		d, ok := hexDigit(r)
		if !ok {
			return "", false
		}
		out[i/2] = out[i/2]<<4 | d
	}
	return string(out), true
}

func hexDigit(r rune) (byte, bool) {
	switch {
	case isDecimal(r):
		return byte(r - '0'), true
	case r >= 'a' && r <= 'f':
		return byte(r-'a') + 10, true
	}
	return 0, false
}

func isDecimal(r rune) bool {
	return r >= '0' && r <= '9'
}

// FormatInt returns n in decimal.
func FormatInt(n int) string {
	return strconv.Itoa(n)
}

// ParseInt returns the number of at most 9 digits that FormatInt formats as s.
func ParseInt(s string) (int, bool) {
	digits, negative := s, false
	if s != "" && s[0] == '-' {
		digits, negative = s[1:], true
	}
	if len(digits) < 1 || len(digits) > maxParsedDigits {
		return 0, false
	}
	n := 0
	for _, r := range digits {
		if !isDecimal(r) {
			return 0, false
		}
		n = n*10 + int(r-'0')
	}
	if negative {
		n = -n
	}
	// Formatting again rules out leading zeros and -0.
	if FormatInt(n) != s {
		return 0, false
	}
	return n, true
}
