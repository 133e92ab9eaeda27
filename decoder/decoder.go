// Package decoder holds what the rules of the decoders (D1 to D9) ask of several of them in the same way.
package decoder

import (
	"signalbench/api"
	"signalbench/bits"
	"signalbench/event"
)

// Decode returns what step returns for the events of l, one after the other from a state on, followed by what end returns (D2).
func Decode[C any](c C, s api.State, l []api.Event, step func(C, api.State, api.Event) (api.State, []api.Event), end func(C, api.State) []api.Event) []api.Event {
	var all []api.Event
	for _, e := range l {
		next, events := step(c, s, e)
		s = next
		all = append(all, events...)
	}
	return append(all, end(c, s)...)
}

// AcceptsBit reports whether a decoder of the port api.EvBit accepts e if the last accepted event, if any, begins at a tick (D4).
// The tick is 0 if there is none.
func AcceptsBit(at int, e api.Event) bool {
	return event.Valid(e) && e.Kind == api.EvBit && e.From >= at && (e.Value == 0 || e.Value == 1)
}

// Aborted returns the event of some kind for what was collected from a tick on and given up at another one, or where it
// begins if that is later (D6, D7).
func Aborted(kind, from, to int) api.Event {
	return api.Event{Kind: kind, From: from, To: max(from, to), Fault: api.FtAborted}
}

// CheckItems returns the error of items that cannot be encoded, or OK: what applies to every sender, with gaps of at most
// some ticks, and then what check returns for an item (D9). It is called once for each item, one after the other, up to the
// first error, so that it may remember the items before.
func CheckItems(l []api.Item, gap int, check func(api.Item) api.Errno) api.Errno {
	if len(l) > api.MaxItems {
		return api.ErrLimit
	}
	for _, item := range l {
		if e := checkItem(item, gap, check); e != api.OK {
			return e
		}
	}
	return api.OK
}

// checkItem returns the error of one item.
func checkItem(item api.Item, gap int, check func(api.Item) api.Errno) api.Errno {
	if item.Gap < 0 || item.Gap > gap {
		return api.ErrArg
	}
	if len(item.Data) > api.MaxData {
		return api.ErrLimit
	}
	return check(item)
}

// CheckBits returns the error of an item that should be a sequence of bits and nothing else, or OK.
func CheckBits(item api.Item) api.Errno {
	if !bits.Valid(item.Data) {
		return api.ErrSyntax
	}
	return CheckPlain(item)
}

// CheckPlain returns the error of an item that should have nothing but a gap and data, or OK.
func CheckPlain(item api.Item) api.Errno {
	if item.Value != 0 || item.Aux != 0 || item.Fault != api.FtNone {
		return api.ErrArg
	}
	return api.OK
}
