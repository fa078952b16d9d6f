// Package bounds has what every layer asks of numbers.
package bounds

// Within tells whether n is from low to high, both among them.
func Within(n, low, high int) bool { return low <= n && n <= high }

// Has tells whether n is a number of one of count things, which are numbered from 0 on.
func Has(count, n int) bool { return Within(n, 0, count-1) }
