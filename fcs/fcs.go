// Package fcs sums frames: the FCS-16 of RFC 1662 (DOC.md, chapter 1).
package fcs

import (
	"strings"

	"withy/api"
)

const (
	polynomial = 0x8408
	start      = 0xffff
	length     = 2
)

// Of gives the sum of s.
func Of(s string) int {
	table := halfBytes()
	sum := uint16(start)
	for i := 0; i < len(s); i++ {
		sum ^= uint16(s[i])
		sum = sum>>4 ^ table[sum&15]
		sum = sum>>4 ^ table[sum&15]
	}
	return int(^sum)
}

// Put gives s with its sum behind it.
func Put(s string) string {
	return s + wire(Of(s))
}

// Check takes the sum off s, if it is the sum of what stands ahead of it.
func Check(s string) (string, api.Errno) {
	if len(s) < length {
		return "", api.ErrFcsShort
	}
	body, sum := s[:len(s)-length], s[len(s)-length:]
	if sum != wire(Of(body)) {
		return "", api.ErrFcsBad
	}
	// A piece of s would share its memory.
	return strings.Clone(body), api.OK
}

// wire gives a sum as it stands in a frame.
func wire(sum int) string {
	return string([]byte{byte(sum), byte(sum >> 8)})
}

// halfBytes gives what each half of a byte adds to a sum. Half a byte, not a
// whole one: the table is made at each call, and most frames are short.
func halfBytes() [16]uint16 {
	var table [16]uint16
	for i := range table {
		sum := uint16(i)
		for range 4 {
			sum = sum>>1 ^ polynomial*(sum&1)
		}
		table[i] = sum
	}
	return table
}
