package vcd

import (
	"strconv"
	"strings"

	"signalbench/api"
	"signalbench/bits"
	"signalbench/capture"
	"signalbench/lex"
)

// wrongLine is the value of the panic that reports a wrong line.
type wrongLine struct {
	number int
	e      api.Errno
}

// parser reads a textual form line by line. Its methods report a wrong line by panic.
type parser struct {
	rest   string // what follows the lines that were taken
	number int    // of the line that was taken last
	names  []string
	runs   []api.Run // the last one has no ticks before the next line tells them
	begin  int       // of the last run
}

// parsed returns the capture whose textual form is s.
func parsed(s string) api.Capture {
	p := parser{rest: s}
	p.takeNames()
	for p.takeRun() {
	}
	p.takeEnd()
	return api.Capture{Names: p.names, Runs: p.runs}
}

// takeNames takes the first line.
func (p *parser) takeNames() {
	words := strings.Split(p.take(), blank)
	p.require(words[0] == firstWord && len(words) > 1)
	for _, word := range words[1:] {
		p.require(lex.Name(word))
		// A part of the text would keep all of it in memory.
		p.names = append(p.names, strings.Clone(word))
	}
	if e := capture.Check(api.Capture{Names: p.names}); e != api.OK {
		p.fail(e)
	}
}

// takeRun takes a line after the first one and reports whether it is that of a run and not the last one.
func (p *parser) takeRun() bool {
	first, second, _ := strings.Cut(p.take(), blank)
	if first == lastWord {
		p.reach(second)
		return false
	}
	p.reach(first)
	level := p.level(second)
	last := len(p.runs) - 1
	p.require(last < 0 || p.runs[last].Level != level)
	p.runs = append(p.runs, api.Run{Level: level})
	return true
}

// takeEnd takes what follows the last line, which is nothing.
func (p *parser) takeEnd() {
	if p.rest == "" {
		return
	}
	p.number++
	p.fail(api.ErrSyntax)
}

// take returns the next line without its line feed.
func (p *parser) take() string {
	p.number++
	text, rest, ended := strings.Cut(p.rest, lineFeed)
	p.require(ended)
	p.rest = rest
	return text
}

// reach ends the last run at the time of the line.
func (p *parser) reach(word string) {
	at, ok := timeOf(word)
	p.require(ok)
	if last := len(p.runs) - 1; last < 0 {
		p.require(at == 0)
	} else {
		p.require(at > p.begin)
		p.runs[last].Ticks = at - p.begin
	}
	p.begin = at
}

// level returns the level with one character for each channel.
func (p *parser) level(word string) int {
	level, e := bits.Int(word, false)
	p.require(e == api.OK && len(word) == len(p.names))
	return level
}

// require reports the line as one of wrong syntax unless a condition holds.
func (p *parser) require(ok bool) {
	if !ok {
		p.fail(api.ErrSyntax)
	}
}

// fail reports the line with an error.
func (p *parser) fail(e api.Errno) {
	panic(wrongLine{p.number, e})
}

// timeOf returns the time that a word denotes, and whether it is one.
func timeOf(word string) (int, bool) {
	at, e := lex.Number(word)
	// The numbers of lex may also be hexadecimal.
	decimal := strconv.Itoa(at) == word
	return at, e == api.OK && decimal && 0 <= at && at <= api.MaxTime
}
