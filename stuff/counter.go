package stuff

import "signalbench/api"

// counter tells how many equal bits, or ones, the bits so far end with. A sender and a decoder that count the same bits agree
// about where the stuff bits are.
type counter struct {
	count int
	bit   int // the value of the counted bits; 0 if there are none
}

// counted returns the counter after a bit that is counted.
func (k counter) counted(c api.Stuff, bit int) counter {
	if c.Ones && bit == 0 {
		return counter{}
	}
	if k.count > 0 && k.bit == bit {
		return counter{count: k.count + 1, bit: bit}
	}
	return counter{count: 1, bit: bit}
}

// due reports whether a stuff bit is due.
func (k counter) due(c api.Stuff) bool {
	return k.count == c.Run
}

// stuffBit returns what a stuff bit that is due should be.
func (k counter) stuffBit() int {
	return 1 - k.bit
}

// stuffed returns the counter after the stuff bit that is due.
func (k counter) stuffed(c api.Stuff) counter {
	return counter{}.counted(c, k.stuffBit())
}
