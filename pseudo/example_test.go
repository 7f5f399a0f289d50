package pseudo_test

import (
	"fmt"

	"caissa/api"
	"caissa/making"
	"caissa/move"
	"caissa/position"
	"caissa/pseudo"
	"caissa/square"
)

// The example of README.md: the moves of a position, whether its king could be captured afterwards or not.
func Example() {
	p, _ := position.Parse("4x4 1k2/1r2/1R2/1K2 w - - 0 1")
	l, e := pseudo.Moves(p)
	text, _ := move.Line(p.Size, l)
	fmt.Println(text, e == api.OK)
	b2, _ := square.Parse(p.Size, "b2")
	l, _ = pseudo.From(p, b2)
	fmt.Println(len(l))
	m, _ := move.Parse(p.Size, "b2a2")
	is, e := pseudo.Is(p, m)
	fmt.Println(is, e == api.OK)
	_, _, e = making.Make(p, m)
	fmt.Println(e == making.ErrKing)
	m, _ = move.Parse(p.Size, "b2b3")
	captured, at, e := pseudo.Captured(p, m)
	fmt.Println(captured, at, e == api.OK)
	m, _ = move.Parse(p.Size, "b2b4")
	_, _, e = pseudo.Captured(p, m)
	fmt.Println(e == api.ErrCheck)

	p, _ = position.Parse("8x8 4kr2/8/8/8/8/8/8/R3K2R w KQ - 3 9")
	m, _ = move.Parse(p.Size, "e1g1")
	castles, e := pseudo.Castles(p, m)
	fmt.Println(castles, e == api.OK)
	// Output:
	// b1a1 b1c1 b1a2 b1c2 b2a2 b2c2 b2d2 b2b3 true
	// 4
	// true true
	// true
	// -4 9 true
	// true
	// true true
}
