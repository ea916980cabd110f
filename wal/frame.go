package wal

import (
	"iter"

	"outlaw/api"
)

// Where the parts of a sector begin.
const (
	atFlag  = 8
	atCount = 9
	atBytes = 11
	atAgain = atBytes + api.SectorRoom
)

// A frame is a sector of the log.
type frame [api.SectorSize]byte

// framed returns the sector with index i that has these bytes of a record.
func framed(i uint64, part string, last bool) frame {
	var f frame
	putNumber(f[:atFlag], i+1)
	if last {
		f[atFlag] = 1
	}
	putNumber(f[atCount:atBytes], uint64(len(part)))
	copy(f[atBytes:atAgain], part)
	putNumber(f[atAgain:], i+1)
	return f
}

// putNumber writes n into all bytes of b, big-endian.
func putNumber(b []byte, n uint64) {
	for i := range b {
		b[len(b)-1-i] = byte(n)
		n >>= 8
	}
}

// number reads all bytes of b, big-endian.
func number(b []byte) uint64 {
	n := uint64(0)
	for _, c := range b {
		n = n<<8 | uint64(c)
	}
	return n
}

// whole returns the part of a record in the sector with index i, and whether it is the last one; is says whether the sector is whole.
func (f *frame) whole(i int) (part string, last, is bool) {
	count := int(number(f[atCount:atBytes]))
	last = f[atFlag] == 1
	if number(f[:atFlag]) != uint64(i)+1 || number(f[atAgain:]) != uint64(i)+1 || f[atFlag] > 1 || count > api.SectorRoom || !last && count < api.SectorRoom {
		return "", false, false
	}
	for _, c := range f[atBytes+count : atAgain] {
		if c != 0 {
			return "", false, false
		}
	}
	return string(f[atBytes : atBytes+count]), last, true
}

// sectors gives the parts in the sectors of an image, and whether each is the last one of its record, up to the first sector that is not whole.
func sectors(image []byte) iter.Seq2[string, bool] {
	return func(yield func(part string, last bool) bool) {
		var f frame
		for i := 0; i < len(image)/api.SectorSize; i++ {
			copy(f[:], image[i*api.SectorSize:])
			part, last, is := f.whole(i)
			if !is || !yield(part, last) {
				return
			}
		}
	}
}
