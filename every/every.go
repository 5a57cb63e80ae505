// Package every asks of a list whether something is so of all that it holds, and makes something of each.
package every

// Is asks whether ok holds of each item; of an empty list it does.
func Is[T any](list []T, ok func(T) bool) bool {
	for _, item := range list {
		if !ok(item) {
			return false
		}
	}
	return true
}

// Made tells what turn makes of each item, in a list of its own.
func Made[T any, U any](list []T, turn func(T) U) []U {
	made := make([]U, len(list))
	for i, item := range list {
		made[i] = turn(item)
	}
	return made
}
