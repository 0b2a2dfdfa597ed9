package regex

// byteSet has one bit for every byte; two sets are the same if they are equal.
type byteSet [4]uint64

func (s byteSet) has(c byte) bool {
	return s[c/64]>>(c%64)&1 == 1
}

// add lays the bytes from the first to the second into the set. It counts in
// ints, since a byte could not count beyond 255.
func (s *byteSet) add(first byte, last byte) {
	for c := int(first); c <= int(last); c++ {
		s[byte(c)/64] |= 1 << (byte(c) % 64)
	}
}

func (s byteSet) joined(other byteSet) byteSet {
	for i := range s {
		s[i] |= other[i]
	}
	return s
}

func (s byteSet) others() byteSet {
	for i := range s {
		s[i] = ^s[i]
	}
	return s
}
