package ray_test

import (
	"fmt"

	"caissa/api"
	"caissa/ray"
	"caissa/square"
)

// The example of README.md: a bishop and a pawn on the usual board.
func Example() {
	s := api.Size{Files: 8, Ranks: 8}
	c1, _ := square.Parse(s, "c1")
	e2, _ := square.Parse(s, "e2")
	e3, _ := square.Parse(s, "e3")
	for at := range ray.Ray(s, c1, 1, 1) {
		name, _ := square.Name(s, at)
		fmt.Println(name)
	}

	occupied, _ := square.Of(s, c1, e3)
	reach, _ := ray.Reach(s, api.Bishop, c1, occupied)
	between, _ := ray.Between(s, c1, e3)
	files, ranks, _ := ray.Direction(s, c1, e3)
	for at := range square.Each(reach) {
		name, _ := square.Name(s, at)
		fmt.Println(name)
	}
	fmt.Println(between, files, ranks)

	attacks, _ := ray.Pawn(s, false, e2)
	steps, _ := ray.Steps(s, false, e2, occupied)
	fmt.Println(attacks, steps)

	_, e := ray.Between(s, c1, e2)
	fmt.Println(e == api.ErrNone)
	// Output:
	// d2
	// e3
	// f4
	// g5
	// h6
	// b2
	// d2
	// a3
	// e3
	// 2048 1 1
	// 2621440 0
	// true
}
