package attack_test

import (
	"fmt"

	"caissa/api"
	"caissa/attack"
	"caissa/board"
	"caissa/square"
)

// The example of README.md: a knight between its king and a queen.
func Example() {
	b, _ := board.Parse("4k/4q/5/4N/4K")
	e2, _ := square.Parse(b.Size, "e2")
	e4, _ := square.Parse(b.Size, "e4")

	king, _ := attack.King(b, false)
	checkers, _ := attack.Checkers(b, false)
	attackers, _ := attack.Attackers(b, e4, false)
	defenders, _ := attack.Attackers(b, e4, true)
	fmt.Println(king, checkers, attackers, defenders)

	attacked, _ := attack.Attacked(b, false)
	for at := range square.Each(attacked) {
		name, _ := square.Name(b.Size, at)
		fmt.Println(name)
	}

	pinned, _ := attack.Pinned(b, false)
	line, _ := attack.Line(b, e2)
	fmt.Println(pinned, line)

	_, e := attack.Line(b, e4)
	fmt.Println(e == api.ErrNone)
	// Output:
	// 4 0 0 16777216
	// c1
	// d1
	// d2
	// e2
	// c3
	// d4
	// 512 540672
	// true
}
