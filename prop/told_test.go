package prop_test

import (
	"strings"

	"towncrier/api"
	"towncrier/field"
)

// told is what an error says, nothing for nil.
func told(e error) string {
	if e == nil {
		return ""
	}
	return e.Error()
}

// row is what the chapter's table tells of an identifier.
type row struct {
	has    int
	places []int
	one    bool // only 0 and 1 are allowed
	some   bool // only numbers greater than 0 are allowed
}

// table is the chapter's, by the identifiers.
func table() map[int]row {
	almostAll := []int{1, 2, 3, 4, 5, 6, 7, 8, 9, 10, 11, 14, 15, 16}
	m := map[int]row{
		1:  {has: 1, places: []int{3, 16}, one: true},
		2:  {has: 4, places: []int{3, 16}},
		9:  {has: 7, places: []int{3, 16}},
		11: {has: 5, places: []int{3, 8}, some: true},
		17: {has: 4, places: []int{1, 2, 14}},
		19: {has: 2, places: []int{2}},
		21: {has: 6, places: []int{1, 2, 15}},
		22: {has: 7, places: []int{1, 2, 15}},
		24: {has: 4, places: []int{16}},
		28: {has: 6, places: []int{2, 14}},
		31: {has: 6, places: []int{2, 4, 5, 6, 7, 9, 11, 14, 15}},
		33: {has: 2, places: []int{1, 2}, some: true},
		34: {has: 2, places: []int{1, 2}},
		35: {has: 2, places: []int{3}, some: true},
		38: {has: 9, places: almostAll},
		39: {has: 4, places: []int{1, 2}, some: true},
	}
	for _, id := range []int{3, 8} {
		m[id] = row{has: 6, places: []int{3, 16}}
	}
	for _, id := range []int{18, 26} {
		m[id] = row{has: 6, places: []int{2}}
	}
	for _, id := range []int{23, 25} {
		m[id] = row{has: 1, places: []int{1}, one: true}
	}
	for _, id := range []int{36, 37, 40, 41, 42} {
		m[id] = row{has: 1, places: []int{2}, one: true}
	}
	return m
}

// ids are the identifiers of the table, rising.
func ids() []int {
	return []int{1, 2, 3, 8, 9, 11, 17, 18, 19, 21, 22, 23, 24, 25, 26, 28, 31, 33, 34, 35, 36, 37, 38, 39, 40, 41, 42}
}

// example is a property of an identifier that is allowed, with only what its type has.
func example(id int) api.Prop {
	switch table()[id].has {
	case 1, 2, 4, 5:
		return api.Prop{Id: id, N: 1}
	case 6:
		return api.Prop{Id: id, S: "t\u00f6"}
	case 7:
		return api.Prop{Id: id, S: "\x00\xff"}
	}
	return api.Prop{Id: id, S: "key", V: "\u20ac"}
}

// raw are a property's bytes, as the chapter tells them.
func raw(p api.Prop) string {
	var w field.Writer
	w.Var(p.Id)
	switch table()[p.Id].has {
	case 1:
		w.U8(p.N)
	case 2:
		w.U16(p.N)
	case 4:
		w.U32(p.N)
	case 5:
		w.Var(p.N)
	case 6:
		w.Text(p.S)
	case 7:
		w.Bin(p.S)
	case 9:
		w.Text(p.S)
		w.Text(p.V)
	}
	s, _ := w.Bytes()
	return s
}

// ahead is s with the number of its bytes ahead.
func ahead(s string) string {
	var w field.Writer
	w.Var(len(s))
	w.Raw(s)
	s, _ = w.Bytes()
	return s
}

// many are n pairs.
func many(n int) []api.Prop {
	l := make([]api.Prop, n)
	for i := range l {
		l[i] = api.Prop{Id: 38, S: strings.Repeat("k", i%3), V: strings.Repeat("v", i%4)}
	}
	return l
}
