package square_test

import (
	"fmt"

	"caissa/api"
	"caissa/square"
)

// The example of README.md: the neighbours to the right of some squares.
func Example() {
	s := api.Size{Files: 5, Ranks: 4}
	c4, e := square.Parse(s, "c4")
	fmt.Println(c4, e == api.OK)

	set, _ := square.Of(s, 0, c4)
	right, _ := square.Shift(s, set, 1, 0)
	for at := range square.Each(right) {
		name, _ := square.Name(s, at)
		fmt.Println(name)
	}

	_, e = square.Parse(s, "f1")
	fmt.Println(e == api.ErrFormat)
	// Output:
	// 17 true
	// b1
	// d4
	// true
}
