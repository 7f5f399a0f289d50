package legal_test

import (
	"fmt"

	"caissa/api"
	"caissa/legal"
	"caissa/move"
	"caissa/position"
	"caissa/square"
)

// The example of README.md: the legal moves of a position, and the positions after them.
func Example() {
	p, _ := position.Parse("4x4 1k2/1r2/1R2/1K2 w - - 0 1")
	l, e := legal.Moves(p)
	text, _ := move.Line(p.Size, l)
	fmt.Println(text, e == api.OK)
	m, _ := move.Parse(p.Size, "b2a2")
	is, e := legal.Is(p, m)
	fmt.Println(is, e == api.OK)
	b2, _ := square.Parse(p.Size, "b2")
	targets, e := legal.Targets(p, b2)
	fmt.Println(targets, e == api.OK)
	for m, q := range legal.After(p) {
		name, _ := move.Text(p.Size, m)
		text, _ := position.Text(q)
		fmt.Println(name, text)
		break
	}

	p, _ = position.Parse("3x3 k2/1Q1/K2 b - - 0 1")
	any, e := legal.Any(p)
	fmt.Println(any, e == api.OK)
	p, _ = position.Parse("3x3 k2/3/2K w - - 10000 1")
	l, _ = legal.Moves(p)
	fmt.Println(len(l))
	for m := range legal.After(p) {
		fmt.Println(m)
	}
	// Output:
	// b1a1 b1c1 b1a2 b1c2 b2b3 true
	// false true
	// 512 true
	// b1a1 4x4 1k2/1r2/1R2/K3 b - - 1 1
	// false true
	// 2
}
