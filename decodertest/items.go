package decodertest

import (
	"math"
	"strings"

	"signalbench/api"
)

// Items returns items with these data and different gaps.
func Items(data ...string) []api.Item {
	var l []api.Item
	for i, d := range data {
		l = append(l, api.Item{Gap: i, Data: d})
	}
	return l
}

// Joined returns the data of all items.
func Joined(l []api.Item) string {
	var s strings.Builder
	for _, item := range l {
		s.WriteString(item.Data)
	}
	return s.String()
}

// OtherGaps returns copies of an item, each with a gap that no sender with gaps of at most some ticks can have.
func OtherGaps(item api.Item, most int) []api.Item {
	var l []api.Item
	for _, n := range []int{math.MinInt, -1, most + 1, math.MaxInt} {
		item.Gap = n
		l = append(l, item)
	}
	return l
}

// OtherFields returns copies of an item, in each of which one of Value, Aux and Fault is not 0.
func OtherFields(item api.Item) []api.Item {
	var l []api.Item
	for _, n := range []int{math.MinInt, -1, 1, 2, api.FtUnknown, api.FtUnknown + 1, math.MaxInt} {
		value, aux, fault := item, item, item
		value.Value, aux.Aux, fault.Fault = n, n, n
		l = append(l, value, aux, fault)
	}
	return l
}
