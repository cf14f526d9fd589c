package run

import (
	"strconv"
	"strings"
)

// report are the lines that were told so far.
type report struct {
	strings.Builder
}

// line adds a line of a word and numbers.
func (r *report) line(word string, numbers ...int) {
	r.WriteString(word)
	for _, n := range numbers {
		r.WriteByte(' ')
		r.WriteString(strconv.Itoa(n))
	}
	r.WriteByte('\n')
}
