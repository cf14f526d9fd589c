package wal

import (
	"towncrier/api"
	"towncrier/crc"
	"towncrier/field"
)

// frames advances through bytes, frame by frame.
type frames struct {
	bytes string
	at    int // how many bytes the frames have that were read
}

// next is the record of the next frame; false: none is complete there.
func (f *frames) next() (string, bool) {
	r := field.New(f.bytes[f.at:])
	size := r.U32()
	sum := r.U32()
	if size > api.MaxBody {
		return "", false
	}
	record := r.Raw(size)
	if r.Err() != nil || sum != sumOf(record) {
		return "", false
	}
	f.at += r.At()
	return record, true
}

// sumOf is the checksum in a record's frame.
func sumOf(record string) int {
	var size field.Writer
	size.U32(len(record))
	ahead, _ := size.Bytes()
	return crc.More(crc.Sum(ahead), record)
}
