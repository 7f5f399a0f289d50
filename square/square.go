// Package square: boards, squares, names, distances and sets of squares (layer 1).
package square

import (
	"iter"
	"math/bits"

	"caissa/api"
)

// ValidSize reports whether a size is valid.
func ValidSize(s api.Size) bool { return validSide(s.Files) && validSide(s.Ranks) }

func validSide(n int) bool { return api.MinSide <= n && n <= api.MaxSide }

// Count returns the number of squares of a board, or an error.
func Count(s api.Size) (int, api.Errno) {
	if !ValidSize(s) {
		return 0, api.ErrArg
	}
	return s.Files * s.Ranks, api.OK
}

// Valid reports whether a number is that of a square of a board.
func Valid(s api.Size, at int) bool {
	return ValidSize(s) && 0 <= at && at < s.Files*s.Ranks
}

// At returns the square on a file and a rank, both from 0 on, or an error.
func At(s api.Size, file, rank int) (int, api.Errno) {
	if !ValidSize(s) {
		return 0, api.ErrArg
	}
	if !onBoard(s, file, rank) {
		return 0, api.ErrRange
	}
	return number(s, file, rank), api.OK
}

// Place returns the file and the rank of a square, or an error.
func Place(s api.Size, at int) (file, rank int, e api.Errno) {
	if !Valid(s, at) {
		return 0, 0, api.ErrArg
	}
	file, rank = place(s, at)
	return file, rank, api.OK
}

// Name returns the name of a square, or an error.
func Name(s api.Size, at int) (string, api.Errno) {
	if !Valid(s, at) {
		return "", api.ErrArg
	}
	file, rank := place(s, at)
	return string([]byte{'a' + byte(file), '1' + byte(rank)}), api.OK
}

// Parse returns the square with a name, or an error.
func Parse(s api.Size, name string) (int, api.Errno) {
	if !ValidSize(s) {
		return 0, api.ErrArg
	}
	if len(name) != 2 {
		return 0, api.ErrFormat
	}
	file, rank := int(name[0])-'a', int(name[1])-'1'
	if !onBoard(s, file, rank) {
		return 0, api.ErrFormat
	}
	return number(s, file, rank), api.OK
}

// Light reports whether a square is light, or returns an error.
func Light(s api.Size, at int) (bool, api.Errno) {
	if !Valid(s, at) {
		return false, api.ErrArg
	}
	file, rank := place(s, at)
	return (file+rank)%2 == 1, api.OK
}

// Distance returns the number of steps of a king from a square to another one, or an error.
func Distance(s api.Size, a, b int) (int, api.Errno) {
	if !Valid(s, a) || !Valid(s, b) {
		return 0, api.ErrArg
	}
	fileA, rankA := place(s, a)
	fileB, rankB := place(s, b)
	return max(apart(fileA, fileB), apart(rankA, rankB)), api.OK
}

func apart(a, b int) int { return max(a-b, b-a) }

// All returns the set of all squares of a board, or an error.
func All(s api.Size) (api.Squares, api.Errno) {
	if !ValidSize(s) {
		return 0, api.ErrArg
	}
	// With 64 squares the shift leaves 0, and 0 - 1 wraps around to all bits.
	return api.Squares(1)<<uint(s.Files*s.Ranks) - 1, api.OK
}

// Of returns the set of some squares, or an error.
func Of(s api.Size, squares ...int) (api.Squares, api.Errno) {
	if !ValidSize(s) {
		return 0, api.ErrArg
	}
	var set api.Squares
	for _, at := range squares {
		if !Valid(s, at) {
			return 0, api.ErrArg
		}
		set |= single(at)
	}
	return set, api.OK
}

// Has reports whether a set has a square.
func Has(set api.Squares, at int) bool {
	return 0 <= at && at < 64 && set&single(at) != 0
}

// Each returns an iterator over the squares of a set, in increasing order.
func Each(set api.Squares) iter.Seq[int] {
	return func(yield func(int) bool) {
		// The rest is a variable of the loop, so that the iterator may be used again.
		for rest := uint64(set); rest != 0; rest &= rest - 1 {
			if !yield(bits.TrailingZeros64(rest)) {
				return
			}
		}
	}
}

// Shift returns the set whose squares are moved by some files and ranks, without those that leave the board, or an error.
func Shift(s api.Size, set api.Squares, files, ranks int) (api.Squares, api.Errno) {
	all, e := All(s)
	if e != api.OK {
		return 0, e
	}
	if set&^all != 0 {
		return 0, api.ErrArg
	}
	// Sums with numbers that are too great for any square might overflow.
	if tooFar(s.Files, files) || tooFar(s.Ranks, ranks) {
		return 0, api.OK
	}
	var shifted api.Squares
	for at := range Each(set) {
		file, rank := place(s, at)
		file, rank = file+files, rank+ranks
		if onBoard(s, file, rank) {
			shifted |= single(number(s, file, rank))
		}
	}
	return shifted, api.OK
}

func tooFar(side, steps int) bool { return steps <= -side || side <= steps }

func onBoard(s api.Size, file, rank int) bool {
	return 0 <= file && file < s.Files && 0 <= rank && rank < s.Ranks
}

func number(s api.Size, file, rank int) int { return file + rank*s.Files }

func place(s api.Size, at int) (file, rank int) { return at % s.Files, at / s.Files }

func single(at int) api.Squares { return 1 << uint(at) }
