package prop

import (
	"slices"

	"towncrier/api"
)

// What a property has; the first three are numbers of so many bytes.
const (
	one      = 1
	two      = 2
	four     = 4
	variable = 5
	text     = 6
	bytes    = 7
	pair     = 9
)

// The properties that are spoken of by name.
const (
	subscription = 11
	user         = 38
)

// Type is what a property has: 1, 2, 4 a number of so many bytes, 5 a variable byte integer, 6 a text, 7 bytes, 9 a pair; 0: there is none.
func Type(id int) int {
	switch id {
	case 1, 23, 25, 36, 37, 40, 41, 42:
		return one
	case 19, 33, 34, 35:
		return two
	case 2, 17, 24, 39:
		return four
	case subscription:
		return variable
	case 3, 8, 18, 21, 26, 28, 31:
		return text
	case 9, 22:
		return bytes
	case user:
		return pair
	}
	return 0
}

// Allowed tells whether a place may have a property.
func Allowed(id, place int) bool {
	return slices.Contains(places(id), place)
}

// places are those that may have a property.
func places(id int) []int {
	switch id {
	case 1, 2, 3, 8, 9:
		return []int{api.Publish, api.Will}
	case subscription:
		return []int{api.Publish, api.Subscribe}
	case 17:
		return []int{api.Connect, api.Connack, api.Disconnect}
	case 18, 19, 26, 36, 37, 40, 41, 42:
		return []int{api.Connack}
	case 21, 22:
		return []int{api.Connect, api.Connack, api.Auth}
	case 23, 25:
		return []int{api.Connect}
	case 24:
		return []int{api.Will}
	case 28:
		return []int{api.Connack, api.Disconnect}
	case 31:
		return []int{api.Connack, api.Puback, api.Pubrec, api.Pubrel, api.Pubcomp, api.Suback, api.Unsuback, api.Disconnect, api.Auth}
	case 33, 34, 39:
		return []int{api.Connect, api.Connack}
	case 35:
		return []int{api.Publish}
	case user:
		return []int{
			api.Connect, api.Connack, api.Publish, api.Puback, api.Pubrec, api.Pubrel, api.Pubcomp,
			api.Subscribe, api.Suback, api.Unsubscribe, api.Unsuback, api.Disconnect, api.Auth, api.Will,
		}
	}
	return nil
}

// mayBe tells whether a property's number is allowed.
func mayBe(id, n int) bool {
	switch id {
	case 1, 23, 25, 36, 37, 40, 41, 42:
		return n == 0 || n == 1
	case subscription, 33, 35, 39:
		return n > 0
	}
	return true
}

// severally tells whether a place may have a property several times.
func severally(id, place int) bool {
	return id == user || id == subscription && place == api.Publish
}
