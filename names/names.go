// Package names: where things stand by their names, for all layers alike.
package names

// Places: where in a list each name stands; of several alike the last one.
func Places[T any](l []T, name func(T) string) map[string]int {
	places := make(map[string]int, len(l))
	for i, thing := range l {
		places[name(thing)] = i
	}
	return places
}

// Rise: does each name stand above the one ahead of it, byte by byte?
func Rise[T any](l []T, name func(T) string) bool {
	for i := 1; i < len(l); i++ {
		if name(l[i]) <= name(l[i-1]) {
			return false
		}
	}
	return true
}
