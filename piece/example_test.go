package piece_test

import (
	"fmt"

	"caissa/api"
	"caissa/piece"
)

// The example of README.md: the knight of Black.
func Example() {
	knight, e := piece.Parse('n')
	fmt.Println(knight, e == api.OK)

	kind, _ := piece.Kind(knight)
	side, _ := piece.Side(knight)
	value, _ := piece.Value(knight)
	name, _ := piece.Name(kind)
	fmt.Println(kind, side, value, name)

	fmt.Println(piece.ValidName("round-1"), piece.ValidName("1st-round"))
	// Output:
	// -2 true
	// 2 -1 3 knight
	// true false
}
