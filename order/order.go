// Package order gives numbers by first appearance.
package order

// ByFirst makes a function that gives to each thing it is asked for a number, from 0 on: the same one
// each time, and the next one to a thing that it has not been asked for.
func ByFirst() func(thing int) int {
	numbers := make(map[int]int)
	return func(thing int) int {
		number, ok := numbers[thing]
		if !ok {
			number = len(numbers)
			numbers[thing] = number
		}
		return number
	}
}
