// Package digit: numbers as their decimal texts, and back.
package digit

import (
	"math"
	"strconv"
	"strings"

	"sprocket/api"
)

// The most digits that are taken: 18 always fit an int of 64 bits, and 20 are what the greatest word has.
const (
	maxNumberDigits = 18
	maxWordDigits   = 20
)

// Print answers the text of n.
func Print(n int) string {
	return strconv.Itoa(n)
}

// Parse answers the number that s is the text of, if it has at most 18 digits and stands from least to most.
func Parse(s string, least, most int) (int, api.Errno) {
	digits, below := strings.CutPrefix(s, "-")
	w, err := natural(digits, maxNumberDigits)
	if err != api.OK {
		return 0, err
	}
	if below && w == 0 {
		return 0, api.ErrForm
	}
	// Held against the bounds in 64 bits, for an int may have fewer.
	n := int64(w)
	if below {
		n = -n
	}
	if n < int64(least) || n > int64(most) {
		return 0, api.ErrRange
	}
	return int(n), api.OK
}

// Show answers the text of w.
func Show(w uint64) string {
	return strconv.FormatUint(w, 10)
}

// Word answers the word that s is the text of.
func Word(s string) (uint64, api.Errno) {
	return natural(s, maxWordDigits)
}

// natural answers the number from 0 on that s is the text of: ErrForm, if s is no such text of at most longest digits; ErrRange, if the number is no word.
func natural(s string, longest int) (uint64, api.Errno) {
	if len(s) == 0 || len(s) > longest || len(s) > 1 && s[0] == '0' {
		return 0, api.ErrForm
	}
	isDigit := func(place int) bool { return '0' <= s[place] && s[place] <= '9' }
	var w uint64
	place := 0
next:
	if !isDigit(place) {
		return 0, api.ErrForm
	}
	d := uint64(s[place] - '0')
	// No ErrForm is missed here: only a twentieth digit goes beyond a word, and none is behind it.
	if w > (math.MaxUint64-d)/10 {
		return 0, api.ErrRange
	}
	w = 10*w + d
	place++
	if place < len(s) {
		goto next
	}
	return w, api.OK
}
