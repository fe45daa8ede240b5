// Package order tells of numbers that come in some row: which came first, whether one came twice.
package order

// ByFirst makes a function that gives to each thing it is asked for a number, from 0 on: the same one
// each time, and the next one to a thing that it has not been asked for.
func ByFirst() func(thing int) int {
	numbers := make(map[int]int)
	return func(thing int) int {
		number, ok := numbers[thing]
		if !ok {
			number = len(numbers)
			numbers[thing] = number
		}
		return number
	}
}

// AreDistinct tells whether some numbers are from 0 below a limit, each once.
func AreDistinct(numbers []int, limit int) bool {
	if len(numbers) > limit {
		return false
	}
	met := make(map[int]struct{})
	for _, n := range numbers {
		if _, twice := met[n]; twice || n < 0 || n >= limit {
			return false
		}
		met[n] = struct{}{}
	}
	return true
}
