package legal_test

import (
	"math/bits"
	"slices"
	"testing"

	"caissa/api"
	"caissa/attack"
	"caissa/legal"
	"caissa/making"
	"caissa/move"
	"caissa/position"
	"caissa/pseudo"
	"caissa/ray"
	"caissa/square"
)

// P10.4, and what the chapter says of layers 8 and 9, with the functions of the lower layers.

// scene is a position with what layers 4 and 5 say of it.
type scene struct {
	position               api.Position
	king                   int
	checks, pinned, answer api.Squares
}

// see returns the scene of a position; the answer to a single check are the squares of the piece that gives it and of those between.
func see(t *testing.T, p api.Position) scene {
	t.Helper()
	b := position.Board(p)
	king, e := attack.King(b, p.Black)
	checks, f := attack.Checkers(b, p.Black)
	pinned, g := attack.Pinned(b, p.Black)
	if e != api.OK || f != api.OK || g != api.OK {
		t.Fatal(textOf(p), e, f, g)
	}
	// There is nothing between a knight and a king.
	between, _ := ray.Between(p.Size, king, bits.TrailingZeros64(uint64(checks)))
	return scene{p, king, checks, pinned, checks | between}
}

// holds tells whether a set has a square.
func holds(set api.Squares, at int) bool { return set>>at&1 != 0 }

// check checks what has to be true of a legal move, and counts what is special about it.
func (s scene) check(t *testing.T, m api.Move, n tally) {
	t.Helper()
	p := s.position
	_, captured, e := pseudo.Captured(p, m)
	if e != api.OK {
		t.Fatal(textOf(p), m, e)
	}
	if checks, e := attack.Checkers(position.Board(after(p, m)), p.Black); checks != 0 || e != api.OK {
		t.Fatal(textOf(p), m, "leaves checks from", checks, e)
	}
	count := bits.OnesCount64(uint64(s.checks))
	kind := string('0' + rune(kindOf(p, m.From)))
	switch {
	case m.From == s.king:
		n["king in "+string('0'+rune(count))]++
	case count > 1:
		t.Fatal(textOf(p), m, "is not of the king, though there are checks from", s.checks)
	case count == 1 && captured != -1 && holds(s.checks, captured):
		n["captures, checked by "+string('0'+rune(kindOf(p, captured)))]++
		if captured != m.To {
			n["captures by passant"]++
		}
	case count == 1 && !holds(s.answer, m.To):
		t.Fatal(textOf(p), m, "does not answer the check from", s.checks)
	case count == 1:
		n["between"]++
	}
	if holds(s.pinned, m.From) {
		if line, e := attack.Line(position.Board(p), m.From); !holds(line, m.To) || e != api.OK {
			t.Fatal(textOf(p), m, "leaves the pin line", line, e)
		}
		n["pinned "+kind]++
	}
}

// checkScene checks the legal moves of a position.
func checkScene(t *testing.T, p api.Position, n tally) {
	t.Helper()
	s := see(t, p)
	l, e := legal.Moves(p)
	if e != api.OK {
		t.Fatal(textOf(p), e)
	}
	for _, m := range l {
		s.check(t, m, n)
	}
	for m, q := range legal.After(p) {
		if checks, e := attack.Checkers(position.Board(q), p.Black); checks != 0 || e != api.OK {
			t.Fatal(textOf(p), m, "leaves checks from", checks, e)
		}
	}
}

// The legal moves of mixtures of pieces, and of one with which a pawn that gives check is captured on the square Passant.
func TestConsequences(t *testing.T) {
	t.Parallel()
	n := tally{}
	for _, s := range sizes() {
		for _, p := range samples(s, 300) {
			checkScene(t, p, n)
		}
	}
	checkScene(t, known(t, "5x6 4k/5/5/1pP2/2K2/5 w - b4 0 1"), n)
	checkScene(t, known(t, "5x6 5/2k2/1Pp2/5/5/4K b - b3 0 1"), n)
	n.expect(t, 100, "king in 0", "king in 1", "king in 2", "between")
	n.expect(t, 20, "captures, checked by 1", "captures, checked by 2", "captures, checked by 3", "captures, checked by 4", "captures, checked by 5")
	n.expect(t, 20, "pinned 1", "pinned 3", "pinned 4", "pinned 5")
	n.expect(t, 2, "captures by passant")
}

// Each own piece stands between its king and each bishop, rook and queen on all lines of a board.
func TestPinLines(t *testing.T) {
	t.Parallel()
	n := tally{}
	size := api.Size{Files: 5, Ranks: 6}
	for i := range 30 * 30 * 2 {
		king, foe := i/2%30, i/60
		between, _ := ray.Between(size, king, foe)
		for at := range square.Each(between) {
			for kinds := range 15 {
				p := bare(size, i%2 == 1)
				own := api.Piece(forward(p.Black))
				p.Pieces[king], p.Pieces[at], p.Pieces[foe] = own*api.King, own*api.Piece(kinds%5+1), -own*api.Piece(kinds/5+3)
				for _, q := range crowned(p) {
					checkPosition(t, q)
					checkScene(t, q, n)
				}
			}
		}
	}
	n.expect(t, 100, "pinned 1", "pinned 3", "pinned 4", "pinned 5")
}

// A move is legal just if Make returns a position or ErrFull; After goes over those with which it returns a position, and legal moves are pseudo-legal.
func TestLayersBelow(t *testing.T) {
	t.Parallel()
	met := map[api.Errno]int{}
	for _, s := range sizes() {
		for _, p := range samples(s, 20) {
			l, e := pseudo.Moves(p)
			if e != api.OK {
				t.Fatal(textOf(p), e)
			}
			var made []api.Position
			l = slices.DeleteFunc(l, func(m api.Move) bool {
				q, _, e := making.Make(p, m)
				if met[e]++; e == api.OK {
					made = append(made, q)
				}
				return e == making.ErrKing
			})
			if got, e := legal.Moves(p); !slices.Equal(got, l) || !slices.IsSortedFunc(got, move.Compare) || e != api.OK {
				t.Fatal(textOf(p), lineOf(p, got), e, "want", lineOf(p, l))
			}
			i := 0
			for m, q := range legal.After(p) {
				if i == len(made) || !same(q, made[i]) || !slices.Contains(l, m) {
					t.Fatal(textOf(p), m, q)
				}
				i++
			}
			if i != len(made) {
				t.Fatal(textOf(p), i, "want", len(made))
			}
		}
	}
	for _, e := range []api.Errno{api.OK, making.ErrKing, api.ErrFull} {
		if met[e] < 100 {
			t.Error("only", met[e], "times:", e)
		}
	}
}
