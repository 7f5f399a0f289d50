package position_test

import (
	"fmt"

	"caissa/api"
	"caissa/board"
	"caissa/position"
)

// The example of README.md: a board on which Black is in check, and a pawn that has just gone two ranks.
func Example() {
	b, _ := board.Parse("kR1/3/2K")
	_, e := position.Of(b, false)
	fmt.Println(e == api.ErrArg)
	p, _ := position.Of(b, true)
	text, _ := position.Text(p)
	fmt.Println(text)

	p, e = position.Parse("3x6 k2/3/P2/3/3/2K b - a3 0 1")
	fmt.Println(e == api.OK, p.Passant)
	q := position.Copy(p)
	q.Full = 7
	fmt.Println(position.Equal(p, q), position.Same(p, q))
	q.Half = 1
	fmt.Println(position.Valid(q))
	q.Passant = -1
	fmt.Println(position.Valid(q))

	text, _ = position.Text(position.Start())
	fmt.Println(text)
	// Output:
	// true
	// 3x3 kR1/3/2K b - - 0 1
	// true 6
	// false true
	// false
	// true
	// 8x8 rnbqkbnr/pppppppp/8/8/8/8/PPPPPPPP/RNBQKBNR w KQkq - 0 1
}
