package regex

// leftBehind answers what is left of a form behind a byte.
func (f *forms) leftBehind(a int, c byte) int {
	f.asked++
	return f.left(a, c)
}

// left keeps what it finds for as long as the question is the same: a form may
// stand many times within another.
func (f *forms) left(a int, c byte) int {
	if f.all[a].asked == f.asked {
		return f.all[a].left
	}
	left := f.findLeft(a, c)
	f.all[a].asked = f.asked
	f.all[a].left = left
	return left
}

func (f *forms) findLeft(a int, c byte) int {
	x := f.all[a]
	switch x.kind {
	case setKind:
		if x.bytes.has(c) {
			return emptyText
		}
	case pairKind:
		return f.leftOfPair(x, c)
	case sumKind:
		return f.leftOfSum(x, c)
	case starKind:
		first := f.left(x.first, c)
		return f.then(first, a)
	}
	return noText
}

func (f *forms) leftOfPair(x form, c byte) int {
	first := f.left(x.first, c)
	whole := f.then(first, x.second)
	if !f.all[x.first].takesEmpty {
		return whole
	}
	second := f.left(x.second, c)
	return f.or([]int{whole, second})
}

func (f *forms) leftOfSum(x form, c byte) int {
	list := []int{}
	for _, part := range x.parts {
		left := f.left(part, c)
		list = append(list, left)
	}
	return f.or(list)
}
