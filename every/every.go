// Package every asks of a list whether something is so of all that it holds.
package every

// Is asks whether ok holds of each item; of an empty list it does.
func Is[T any](list []T, ok func(T) bool) bool {
	for _, item := range list {
		if !ok(item) {
			return false
		}
	}
	return true
}
