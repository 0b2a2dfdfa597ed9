package program

import "alerts/config"

// instructions lays those of the whole tree.
func (k *compiler) instructions() []Instruction {
	if len(k.routes) == 0 {
		return []Instruction{{Kind: End}}
	}
	end := k.lay(Instruction{Kind: End})
	first := k.layRoute(0, end)
	return turned(k.laid, first)
}

// lay adds an instruction and answers where it lies. What it goes on at is
// laid ahead of it: instructions are laid from the last one to the first.
func (k *compiler) lay(in Instruction) int {
	k.laid = append(k.laid, in)
	return len(k.laid) - 1
}

// layRoute lays what a route sends whose matchers hold, and answers where that
// begins; behind it the program goes on at done. Such a route always sends, so
// a child has sent if its matchers hold. There are two rows of checks: the
// first finds the first child that sends, and ends at the route itself; the
// second, which a child with continue leads into, finds the next child and
// ends at done. So every route is laid once, and no run need remember whether
// a child has sent.
func (k *compiler) layRoute(route int, done int) int {
	children := k.childrenOf(route)
	begins := make([]int, len(children))
	second := done
	for i := len(children) - 1; i >= 0; i-- {
		child := children[i]
		behind := done
		if k.routes[child].Continue {
			behind = second
		}
		begin := k.layRoute(child, behind)
		begins[i] = begin
		second = k.layChecks(child, begin, second)
	}
	first := k.lay(Instruction{Kind: Send, Number: route, First: done})
	for i := len(children) - 1; i >= 0; i-- {
		first = k.layChecks(children[i], begins[i], first)
	}
	return first
}

// layChecks goes on at yes if all conditions of the route are met, else at no.
func (k *compiler) layChecks(route int, yes int, no int) int {
	conditions := k.conditions[route]
	for i := len(conditions) - 1; i >= 0; i-- {
		in := Instruction{Kind: Check, Number: conditions[i].test, First: yes, Second: no}
		if !conditions[i].holds {
			in.First = no
			in.Second = yes
		}
		yes = k.lay(in)
	}
	return yes
}

func (k *compiler) childrenOf(route int) []int {
	children := []int{}
	for i := route + 1; i < len(k.routes); i++ {
		if config.ParentOf(k.routes, i) == route {
			children = append(children, i)
		}
	}
	return children
}

// turned puts the instructions into the order in which they run and leaves out
// those that no run comes to: so the first one has the number 0.
func turned(laid []Instruction, first int) []Instruction {
	numbers := numbersOf(laid, first)
	out := []Instruction{}
	for i := first; i >= 0; i-- {
		if numbers[i] < 0 {
			continue
		}
		in := laid[i]
		if in.Kind != End {
			in.First = numbers[in.First]
		}
		if in.Kind == Check {
			in.Second = numbers[in.Second]
		}
		out = append(out, in)
	}
	return out
}

// numbersOf answers -1 for an instruction that no run comes to.
func numbersOf(laid []Instruction, first int) []int {
	reached := make([]bool, len(laid))
	reached[first] = true
	numbers := make([]int, len(laid))
	count := 0
	for i := len(laid) - 1; i >= 0; i-- {
		numbers[i] = -1
		if !reached[i] {
			continue
		}
		numbers[i] = count
		count++
		in := laid[i]
		if in.Kind != End {
			reached[in.First] = true
		}
		if in.Kind == Check {
			reached[in.Second] = true
		}
	}
	return numbers
}
