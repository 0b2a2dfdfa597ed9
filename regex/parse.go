package regex

import "alerts/api"

// parser walks over the text of an expression; at is never beyond its end.
// It keeps the sets that it meets, of which the classes of bytes are made.
type parser struct {
	text string
	at   int
	sets []byteSet
}

// parse answers nil if the text is no regular expression.
func (p *parser) parse() *expression {
	e := p.takeChoice(0)
	if p.at < len(p.text) {
		return nil
	}
	return e
}

// take steps over the byte if it stands ahead.
func (p *parser) take(c byte) bool {
	if p.at >= len(p.text) || p.text[p.at] != c {
		return false
	}
	p.at++
	return true
}

// takeAny takes whatever byte stands ahead.
func (p *parser) takeAny() (byte, bool) {
	if p.at >= len(p.text) {
		return 0, false
	}
	c := p.text[p.at]
	p.at++
	return c, true
}

// takeChoice is told how many brackets are open around it.
func (p *parser) takeChoice(nest int) *expression {
	e := &expression{kind: choice}
	for len(e.parts) == 0 || p.take('|') {
		part := p.takeSequence(nest)
		if part == nil {
			return nil
		}
		e.parts = append(e.parts, part)
	}
	return e
}

func (p *parser) takeSequence(nest int) *expression {
	e := &expression{kind: sequence}
	for !p.atSequenceEnd() {
		part := p.takeRepeated(nest)
		if part == nil {
			return nil
		}
		e.parts = append(e.parts, part)
	}
	return e
}

func (p *parser) atSequenceEnd() bool {
	return p.at >= len(p.text) || p.text[p.at] == '|' || p.text[p.at] == ')'
}

func (p *parser) takeRepeated(nest int) *expression {
	e := p.takeAtom(nest)
	for e != nil && p.atRepetition() {
		least, most, ok := p.takeRepetition()
		if !ok {
			return nil
		}
		e = &expression{kind: repeated, what: e, least: least, most: most}
	}
	return e
}

func (p *parser) atRepetition() bool {
	if p.at >= len(p.text) {
		return false
	}
	c := p.text[p.at]
	return c == '*' || c == '+' || c == '?' || c == '{'
}

func (p *parser) takeRepetition() (int, int, bool) {
	if p.take('*') {
		return 0, noEnd, true
	}
	if p.take('+') {
		return 1, noEnd, true
	}
	if p.take('?') {
		return 0, 1, true
	}
	if p.take('{') {
		return p.takeCounts()
	}
	return 0, 0, false
}

// takeCounts takes what stands behind {, and the bracket that ends it.
func (p *parser) takeCounts() (int, int, bool) {
	least, ok := p.takeDigit()
	if !ok {
		return 0, 0, false
	}
	most := least
	if p.take(',') {
		digit, told := p.takeDigit()
		most = noEnd
		if told {
			most = digit
		}
	}
	ended := p.take('}')
	return least, most, ended && (most == noEnd || most >= least)
}

func (p *parser) takeDigit() (int, bool) {
	if p.at >= len(p.text) || p.text[p.at] < '0' || p.text[p.at] > '9' {
		return 0, false
	}
	digit := int(p.text[p.at] - '0')
	p.at++
	return digit, true
}

func (p *parser) takeAtom(nest int) *expression {
	c, ok := p.takeAny()
	if !ok {
		return nil
	}
	switch c {
	case '(':
		return p.takeGroup(nest)
	case '[':
		return p.takeClass()
	case '.':
		none := byteSet{}
		return p.setOf(none.others())
	case '\\':
		c, ok = p.takeAny()
	case ')', '|', '*', '+', '?', '{', '}', ']':
		ok = false
	}
	if !ok {
		return nil
	}
	set := byteSet{}
	set.add(c, c)
	return p.setOf(set)
}

func (p *parser) setOf(set byteSet) *expression {
	p.sets = append(p.sets, set)
	return &expression{kind: oneByte, bytes: set}
}

// takeGroup takes what stands behind (, and the bracket that ends it.
func (p *parser) takeGroup(nest int) *expression {
	if nest >= api.MaxNest {
		return nil
	}
	e := p.takeChoice(nest + 1)
	if !p.take(')') {
		return nil
	}
	return e
}

// takeClass takes what stands behind [, and the bracket that ends it. That
// bracket is looked for behind an item alone, since there is one at the least.
func (p *parser) takeClass() *expression {
	others := p.take('^')
	set := byteSet{}
	for ended := false; !ended; ended = p.take(']') {
		first, last, ok := p.takeItem()
		if !ok {
			return nil
		}
		set.add(first, last)
	}
	if others {
		set = set.others()
	}
	return p.setOf(set)
}

func (p *parser) takeItem() (byte, byte, bool) {
	first, ok := p.takeItemByte()
	if !ok {
		return 0, 0, false
	}
	last := first
	if p.take('-') {
		last, ok = p.takeItemByte()
	}
	return first, last, ok && first <= last
}

func (p *parser) takeItemByte() (byte, bool) {
	if p.take('\\') {
		return p.takeAny()
	}
	c, ok := p.takeAny()
	return c, ok && c != ']' && c != '[' && c != '-'
}
