package letter

import "sort"

// every reports whether all elements of a list are right.
func every[E any](list []E, right func(E) bool) bool {
	for _, element := range list {
		if !right(element) {
			return false
		}
	}
	return true
}

// increasing reports whether each element of a list comes before the next one.
func increasing[E any](list []E, compare func(a, b E) int) bool {
	for i := 1; i < len(list); i++ {
		if compare(list[i-1], list[i]) >= 0 {
			return false
		}
	}
	return true
}

// find returns the index of the element for which side is 0, and whether there is one; the list begins with elements for which side is negative, and ends with those for which it is positive. Without such an element, the index is where it would be.
func find[E any](list []E, side func(E) int) (int, bool) {
	return sort.Find(len(list), func(i int) int { return -side(list[i]) })
}
