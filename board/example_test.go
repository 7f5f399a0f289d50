package board_test

import (
	"fmt"

	"caissa/api"
	"caissa/board"
)

// The example of README.md: a queen is put beside a king.
func Example() {
	b, e := board.Parse("k2/3/2K")
	fmt.Println(b.Size.Files, b.Size.Ranks, e == api.OK)

	b, _ = board.Put(b, 4, api.Queen)
	text, _ := board.Text(b)
	fmt.Println(text)

	white, black, _ := board.Sides(b)
	queens, _ := board.Find(b, api.Queen)
	fmt.Println(white, black, queens)

	whiteSum, blackSum, _ := board.Material(b)
	fmt.Println(whiteSum, blackSum)

	_, e = board.Parse("k2/111/2K")
	fmt.Println(e == api.ErrFormat)
	// Output:
	// 3 3 true
	// k2/1Q1/2K
	// 20 64 16
	// 9 0
	// true
}
