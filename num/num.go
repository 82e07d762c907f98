// Package num is layer 1: numbers as texts.
package num

import (
	"math"

	"dactyl/api"
)

// signs are the digits of all bases that are told here.
const signs = "0123456789ABCDEF"

// mostHex is how many hex digits an int that is read has at most.
const mostHex = 15

// teller makes a function that tells a number's digits to a base, at least so many.
func teller(base uint64) func(n uint64, least int) string {
	return func(n uint64, least int) string {
		var room [20]byte
		at := len(room)
		for n > 0 || least > 0 {
			at--
			room[at] = signs[n%base]
			n /= base
			least--
		}
		return string(room[at:])
	}
}

// reader makes a function that reads digits to a base; false: these are none. More of them than a uint64 holds wrap.
func reader(base uint64) func(s string) (uint64, bool) {
	return func(s string) (uint64, bool) {
		n := uint64(0)
		for i := 0; i < len(s); i++ {
			d := digit(s[i])
			if d >= base {
				return 0, false
			}
			n = n*base + d
		}
		return n, s != ""
	}
}

// digit tells what a digit is worth; of what is none, more than any base.
func digit(b byte) uint64 {
	switch {
	case b >= '0' && b <= '9':
		return uint64(b - '0')
	case b >= 'A' && b <= 'F':
		return uint64(b-'A') + 10
	}
	return math.MaxUint64
}

// Dec tells a number's digits.
func Dec(n int) string {
	tell := teller(10)
	if n < 0 {
		return "-" + tell(-uint64(n), 1)
	}
	return tell(uint64(n), 1)
}

// Undec reads a number's digits.
func Undec(s string) (int, api.Errno) {
	digits, below := s, false
	if s != "" && s[0] == '-' {
		digits, below = s[1:], true
	}
	u, ok := reader(10)(digits)
	n := int(u)
	if below {
		n = -n
	}
	// Telling the number anew refuses needless noughts, and what an int can't be.
	if !ok || Dec(n) != s {
		return 0, api.ErrForm
	}
	return n, api.OK
}

// Hex tells a number's hex digits, at least so many.
func Hex(n, least int) string {
	if n < 0 {
		return ""
	}
	return teller(16)(uint64(n), min(max(least, 1), 16))
}

// Unhex reads hex digits.
func Unhex(s string) (int, api.Errno) {
	n, ok := reader(16)(s)
	if !ok || len(s) > mostHex {
		return 0, api.ErrForm
	}
	return int(n), api.OK
}
