package regex

func (f *forms) set(bytes byteSet) int {
	if bytes == (byteSet{}) {
		return noText
	}
	return f.number(form{kind: setKind, bytes: bytes})
}

func (f *forms) then(a int, b int) int {
	if a == noText || b == noText {
		return noText
	}
	if a == emptyText {
		return b
	}
	if b == emptyText {
		return a
	}
	x := f.all[a]
	if x.kind == pairKind {
		rest := f.then(x.second, b)
		return f.then(x.first, rest)
	}
	takesEmpty := x.takesEmpty && f.all[b].takesEmpty
	return f.number(form{kind: pairKind, first: a, second: b, takesEmpty: takesEmpty})
}

func (f *forms) star(a int) int {
	if a == noText || a == emptyText {
		return emptyText
	}
	if f.all[a].kind == starKind {
		return a
	}
	return f.number(form{kind: starKind, first: a, takesEmpty: true})
}

// or joins any number of forms at once, which comes to the same as two by two.
func (f *forms) or(list []int) int {
	parts := []int{}
	bytes := byteSet{}
	for _, a := range list {
		for _, part := range f.partsOf(a) {
			if f.all[part].kind == setKind {
				bytes = bytes.joined(f.all[part].bytes)
				continue
			}
			parts = append(parts, part)
		}
	}
	set := f.set(bytes)
	if set != noText {
		parts = append(parts, set)
	}
	return f.sum(parts)
}

// partsOf answers a list that is to be read only.
func (f *forms) partsOf(a int) []int {
	if a == noText {
		return nil
	}
	if f.all[a].kind == sumKind {
		return f.all[a].parts
	}
	return []int{a}
}

// sum is told parts that are no sums, none of them no text, and one set of
// bytes at the most; they have no order and may repeat.
func (f *forms) sum(list []int) int {
	parts := risingOnce(list)
	if len(parts) == 0 {
		return noText
	}
	if len(parts) == 1 {
		return parts[0]
	}
	takesEmpty := false
	for _, part := range parts {
		takesEmpty = takesEmpty || f.all[part].takesEmpty
	}
	return f.number(form{kind: sumKind, parts: parts, takesEmpty: takesEmpty})
}

// risingOnce makes a fresh list of the numbers, each once and in rising order.
func risingOnce(list []int) []int {
	rising := []int{}
	for _, n := range list {
		rising = append(rising, n)
		i := len(rising) - 1
		for i > 0 && rising[i-1] > n {
			rising[i] = rising[i-1]
			i--
		}
		rising[i] = n
	}
	once := []int{}
	for i, n := range rising {
		if i == 0 || rising[i-1] != n {
			once = append(once, n)
		}
	}
	return once
}
