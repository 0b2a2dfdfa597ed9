package regex

// normal makes the normal form of an expression.
func (f *forms) normal(e *expression) int {
	switch e.kind {
	case oneByte:
		return f.set(e.bytes)
	case choice:
		return f.normalChoice(e.parts)
	case repeated:
		what := f.normal(e.what)
		return f.normalRepeated(what, e.least, e.most)
	}
	return f.normalSequence(e.parts)
}

func (f *forms) normalChoice(parts []*expression) int {
	list := []int{}
	for _, part := range parts {
		a := f.normal(part)
		list = append(list, a)
	}
	return f.or(list)
}

// normalSequence begins with the last part, so that then has no pairs to undo
// but those within a part.
func (f *forms) normalSequence(parts []*expression) int {
	whole := emptyText
	for i := len(parts) - 1; i >= 0; i-- {
		a := f.normal(parts[i])
		whole = f.then(a, whole)
	}
	return whole
}

func (f *forms) normalRepeated(what int, least int, most int) int {
	whole := emptyText
	if most == noEnd {
		whole = f.star(what)
	}
	for i := least; i < most; i++ {
		more := f.then(what, whole)
		whole = f.or([]int{more, emptyText})
	}
	for i := 0; i < least; i++ {
		whole = f.then(what, whole)
	}
	return whole
}
