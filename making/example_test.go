package making_test

import (
	"fmt"

	"caissa/api"
	"caissa/making"
	"caissa/move"
	"caissa/position"
)

// The example of README.md: moves are made and taken back, and some that cannot be made.
func Example() {
	p := position.Start()
	l, _, _ := move.ParseLine(p.Size, "e2e4 d7d5 e4d5")
	q, records, _, e := making.Play(p, l)
	fmt.Println(len(records), e == api.OK)
	text, _ := position.Text(q)
	fmt.Println(text)
	last := records[2]
	fmt.Println(last.Captured, last.At)
	before, e := making.Unmake(q, last)
	text, _ = position.Text(before)
	fmt.Println(text, e == api.OK)
	first, e := making.Back(q, records)
	fmt.Println(position.Equal(p, first), e == api.OK)
	last.Full = 7
	_, e = making.Unmake(q, last)
	fmt.Println(e == api.ErrCheck)
	_, _, wrong, e := making.Play(p, l[1:])
	fmt.Println(wrong, e == api.ErrNone)

	p, _ = position.Parse("4x4 1k2/1r2/1R2/1K2 w - - 0 1")
	m, _ := move.Parse(p.Size, "b2a2")
	_, _, e = making.Make(p, m)
	fmt.Println(e == making.ErrKing)
	m, _ = move.Parse(p.Size, "b2b4")
	_, _, e = making.Make(p, m)
	fmt.Println(e == api.ErrCheck)
	// Output:
	// 3 true
	// 8x8 rnbqkbnr/ppp1pppp/8/3P4/8/8/PPPP1PPP/RNBQKBNR b KQkq - 0 2
	// -1 35
	// 8x8 rnbqkbnr/ppp1pppp/8/3p4/4P3/8/PPPP1PPP/RNBQKBNR w KQkq d6 0 2 true
	// true true
	// true
	// 0 true
	// true
	// true
}
