package alias

// set is a set of names, or of the places of parts.
type set[T comparable] map[T]bool

func (s set[T]) add(l ...T) {
	for _, x := range l {
		s[x] = true
	}
}

// meets reports whether two sets have an element in common.
func (s set[T]) meets(other set[T]) bool {
	if len(s) > len(other) {
		s, other = other, s
	}
	for x := range s {
		if other[x] {
			return true
		}
	}
	return false
}
