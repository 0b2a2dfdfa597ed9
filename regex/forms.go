package regex

// The kinds of normal forms (P8).
const (
	noTextKind    = 0
	emptyTextKind = 1
	setKind       = 2
	pairKind      = 3
	sumKind       = 4
	starKind      = 5
)

// The numbers of the two forms that every list of forms begins with.
const (
	noText    = 0
	emptyText = 1
)

const bucketCount = 1024

// form is a normal form. The forms within it are told by their numbers, which
// are less than its own.
type form struct {
	kind          int
	bytes         byteSet
	first, second int   // of a pair; of a star the first
	parts         []int // of a sum, rising
	takesEmpty    bool
	link          int // the form before it in its bucket
	asked, left   int // what is left of it, as it was found for this question
}

// forms keeps every form once: so two are the same if their numbers are. A
// bucket holds the last form of those whose hash it is, 0 if there is none.
type forms struct {
	all     []form
	buckets [bucketCount]int
	asked   int
}

func newForms() *forms {
	f := &forms{}
	f.all = append(f.all, form{kind: noTextKind})
	f.all = append(f.all, form{kind: emptyTextKind, takesEmpty: true})
	return f
}

// number answers the number of a form, which is kept if it is new.
func (f *forms) number(x form) int {
	bucket := hash(x) % bucketCount
	for i := f.buckets[bucket]; i > 0; i = f.all[i].link {
		if same(f.all[i], x) {
			return i
		}
	}
	x.link = f.buckets[bucket]
	n := len(f.all)
	f.buckets[bucket] = n
	f.all = append(f.all, x)
	return n
}

func hash(x form) uint32 {
	h := mixed(uint32(x.kind), uint32(x.first))
	h = mixed(h, uint32(x.second))
	for _, word := range x.bytes {
		h = mixed(h, uint32(word))
		h = mixed(h, uint32(word>>32))
	}
	for _, part := range x.parts {
		h = mixed(h, uint32(part))
	}
	return h ^ h>>16
}

func mixed(h uint32, word uint32) uint32 {
	return (h ^ word) * 16777619
}

func same(a form, b form) bool {
	if a.kind != b.kind || a.first != b.first || a.second != b.second {
		return false
	}
	return a.bytes == b.bytes && sameList(a.parts, b.parts)
}

func sameList(a []int, b []int) bool {
	if len(a) != len(b) {
		return false
	}
	for i := range a {
		if a[i] != b[i] {
			return false
		}
	}
	return true
}
