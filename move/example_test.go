package move_test

import (
	"fmt"
	"slices"

	"caissa/api"
	"caissa/move"
)

// The example of README.md: moves and lists of moves are written and read.
func Example() {
	s := api.Size{Files: 8, Ranks: 8}
	m, e := move.Parse(s, "a7a8Q")
	fmt.Println(m.From, m.To, m.Promote == api.Queen, e == api.OK)
	_, e = move.Parse(s, "a7a8q")
	fmt.Println(e == api.ErrFormat)
	text, _ := move.Text(s, api.Move{From: 8, To: 24})
	fmt.Println(text)
	fmt.Println(move.Valid(s, api.Move{From: 8, To: 8}))

	l, _, e := move.ParseLine(s, "e2e4 e7e5 g1f3")
	fmt.Println(len(l), e == api.OK)
	slices.SortFunc(l, move.Compare)
	line, _ := move.Line(s, l)
	fmt.Println(line)
	_, wrong, e := move.ParseLine(s, "e2e4  e7e5")
	fmt.Println(wrong, e == api.ErrFormat)
	// Output:
	// 48 56 true true
	// true
	// a2a4
	// false
	// 3 true
	// g1f3 e2e4 e7e5
	// 1 true
}
