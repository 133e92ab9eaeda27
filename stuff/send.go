package stuff

import (
	"signalbench/api"
	"signalbench/bits"
)

// sender inserts the stuff bits into items, one after the other.
type sender struct {
	c    api.Stuff
	k    counter
	sent []api.Item
}

// send sends an item with a possible gap and length, or returns its error.
func (s *sender) send(item api.Item) api.Errno {
	if !bits.Valid(item.Data) {
		return api.ErrSyntax
	}
	faulty := item.Fault == api.FtStuff
	if item.Fault != api.FtNone && !faulty {
		return api.ErrArg
	}
	data := s.stuff(item.Data, faulty)
	if faulty && len(data) == len(item.Data) {
		return api.ErrConflict
	}
	if len(data) > api.MaxData {
		return api.ErrLimit
	}
	if item.Value != 0 || item.Aux != 0 {
		return api.ErrArg
	}
	s.sent = append(s.sent, api.Item{Gap: item.Gap, Data: data})
	return api.OK
}

// stuff returns bits with the stuff bits, of which the first one is wrong if they are faulty.
func (s *sender) stuff(data string, faulty bool) string {
	var l []byte
	for i := range len(data) {
		l = append(l, data[i])
		s.k = s.k.counted(s.c, int(data[i]-'0'))
		if s.k.due(s.c) {
			l = append(l, '0'+byte(s.insert(faulty)))
			faulty = false
		}
	}
	return string(l)
}

// insert returns the stuff bit that is due, or a wrong one in its place, and continues the counter behind it.
func (s *sender) insert(wrong bool) int {
	k := s.k
	if wrong {
		s.k = counter{}
		return k.bit
	}
	s.k = k.stuffed(s.c)
	return k.stuffBit()
}
