package ratio

import "tithing/api"

// counted returns the number that an argument counts as: itself if it is right, and otherwise 0.
func counted(a api.Rat) api.Rat {
	var w witness
	return w.counted(a)
}

// witness notices numbers that are not right. Its method counted, as a value, goes through a list.
type witness struct{ noticed bool }

// counted returns the number that an argument counts as, and notices one that is not right.
func (w *witness) counted(a api.Rat) api.Rat {
	if !Right(a) {
		w.noticed = true
		return zero
	}
	return a
}

// each returns what f makes of each element, in their order.
func each[T, U any](l []T, f func(T) U) []U {
	made := make([]U, len(l))
	for i, x := range l {
		made[i] = f(x)
	}
	return made
}
