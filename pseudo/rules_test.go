package pseudo_test

import (
	"slices"
	"testing"

	"caissa/api"
	"caissa/move"
	"caissa/position"
)

// The definitions of chapters 8 and 9, written out without the functions of the layers that the package calls, but for the validity of positions and moves; and positions with which they are tried.

func abs(n int) int { return max(n, -n) }

// apart returns how many files and ranks a square is away from another one.
func apart(s api.Size, from, to int) (files, ranks int) {
	return to%s.Files - from%s.Files, to/s.Files - from/s.Files
}

// open tells whether all squares between two squares on a line are empty.
func open(p api.Position, from, to int) bool {
	files, ranks := apart(p.Size, from, to)
	steps := max(abs(files), abs(ranks))
	for i := 1; i < steps; i++ {
		if p.Pieces[from+(to-from)/steps*i] != 0 {
			return false
		}
	}
	return true
}

// side returns a number with which the numbers of the own pieces become positive.
func side(p api.Position) int {
	if p.Black {
		return -1
	}
	return 1
}

// can tells whether a valid move is pseudo-legal.
func can(p api.Position, m api.Move) bool {
	own := side(p)
	mover, there := own*int(p.Pieces[m.From]), own*int(p.Pieces[m.To])
	if mover <= 0 || there > 0 {
		return false
	}
	if mover == 1 {
		return pawnCan(p, m, own)
	}
	files, ranks := apart(p.Size, m.From, m.To)
	wide, high := abs(files), abs(ranks)
	straight, slanting := wide*high == 0, wide == high
	var reached bool
	switch mover {
	case 2:
		reached = wide*high == 2
	case 3:
		reached = slanting && open(p, m.From, m.To)
	case 4:
		reached = straight && open(p, m.From, m.To)
	case 5:
		reached = (straight || slanting) && open(p, m.From, m.To)
	case 6:
		reached = max(wide, high) == 1 || castlesWith(p, m) != 0
	}
	return reached && m.Promote == 0
}

// pawnCan tells whether a pawn may go to a square without an own piece.
func pawnCan(p api.Position, m api.Move, own int) bool {
	files, ranks := apart(p.Size, m.From, m.To)
	before, last := m.From/p.Size.Files, p.Size.Ranks-1
	if own < 0 {
		before = last - before
	}
	steps, empty := ranks*own, p.Pieces[m.To] == 0
	if (before+steps == last) != (m.Promote != 0) {
		return false
	}
	if files == 0 {
		return empty && (steps == 1 || steps == 2 && before == 1 && last >= 5 && open(p, m.From, m.To))
	}
	return abs(files) == 1 && steps == 1 && (!empty || m.To == p.Passant)
}

// castling is a way of castling, with the squares between the king and the rook.
type castling struct {
	bit     uint8
	black   bool
	king    api.Move
	between []int
}

// castlings are the four ways.
var castlings = []castling{
	{1, false, api.Move{From: 4, To: 6}, []int{5, 6}},
	{2, false, api.Move{From: 4, To: 2}, []int{1, 2, 3}},
	{4, true, api.Move{From: 60, To: 62}, []int{61, 62}},
	{8, true, api.Move{From: 60, To: 58}, []int{57, 58, 59}},
}

// castlesWith returns the right with which the own king castles, or 0.
func castlesWith(p api.Position, m api.Move) uint8 {
	occupied := func(at int) bool { return p.Pieces[at] != 0 }
	for _, c := range castlings {
		if p.Castle&c.bit != 0 && p.Black == c.black && m == c.king && !slices.ContainsFunc(c.between, occupied) {
			return c.bit
		}
	}
	return 0
}

// taken returns the piece that a pseudo-legal move captures, and its square, or 0 and -1.
func taken(p api.Position, m api.Move) (api.Piece, int) {
	at := m.To
	files, _ := apart(p.Size, m.From, m.To)
	if abs(int(p.Pieces[m.From])) == 1 && files != 0 && p.Pieces[at] == 0 {
		at = m.From + files
	}
	if p.Pieces[at] == 0 {
		return 0, -1
	}
	return p.Pieces[at], at
}

// promotes has all that Promote may be in a valid move, in order.
var promotes = []api.Piece{0, 2, 3, 4, 5}

// valid returns the valid moves from a square, in order.
func valid(p api.Position, from int) []api.Move {
	var l []api.Move
	for to := range p.Pieces {
		for _, kind := range promotes {
			if to != from {
				l = append(l, api.Move{From: from, To: to, Promote: kind})
			}
		}
	}
	return l
}

// possible returns the pseudo-legal moves from a square, in order.
func possible(p api.Position, from int) []api.Move {
	if int(p.Pieces[from])*side(p) <= 0 {
		return nil
	}
	return slices.DeleteFunc(valid(p, from), func(m api.Move) bool { return !can(p, m) })
}

// possibleAll returns all pseudo-legal moves, in order.
func possibleAll(p api.Position) []api.Move {
	var l []api.Move
	for from := range p.Pieces {
		l = append(l, possible(p, from)...)
	}
	return l
}

// sizes returns all valid sizes.
func sizes() []api.Size {
	var l []api.Size
	for n := range 36 {
		l = append(l, api.Size{Files: n/6 + 3, Ranks: n%6 + 3})
	}
	return l
}

// empty returns a position without pieces, which is not valid.
func empty(s api.Size, black bool) api.Position {
	return api.Position{Size: s, Pieces: make([]api.Piece, s.Files*s.Ranks), Black: black, Passant: -1, Full: 1}
}

// changed returns a position in new memory with a change.
func changed(p api.Position, change func(*api.Position)) api.Position {
	p.Pieces = append([]api.Piece(nil), p.Pieces...)
	change(&p)
	return p
}

// put returns a position in new memory with a piece on a square.
func put(p api.Position, at int, piece api.Piece) api.Position {
	return changed(p, func(q *api.Position) { q.Pieces[at] = piece })
}

// same tells whether two positions, valid or not, are equal in all parts.
func same(p, q api.Position) bool {
	return slices.Equal(p.Pieces, q.Pieces) && p.Size == q.Size && p.Black == q.Black && p.Castle == q.Castle && p.Passant == q.Passant && p.Half == q.Half && p.Full == q.Full
}

// mirrored returns a position with the ranks and the sides exchanged.
func mirrored(p api.Position) api.Position {
	q := changed(p, func(q *api.Position) { q.Black = !p.Black })
	flip := func(at int) int { return (p.Size.Ranks-1-at/p.Size.Files)*p.Size.Files + at%p.Size.Files }
	for at, piece := range p.Pieces {
		q.Pieces[flip(at)] = -piece
	}
	q.Castle = p.Castle>>2 | p.Castle&3<<2
	if p.Passant != -1 {
		q.Passant = flip(p.Passant)
	}
	return q
}

// crowned returns valid positions with two kings more, on squares that are empty: the one with the first squares for them, and the one with the last ones, if there are any.
func crowned(p api.Position) []api.Position {
	count := len(p.Pieces)
	find := func(square func(int) int) []api.Position {
		for n := range count * count {
			a, b := square(n/count), square(n%count)
			if a == b || p.Pieces[a] != 0 || p.Pieces[b] != 0 {
				continue
			}
			if q := put(put(p, a, 6), b, -6); position.Valid(q) {
				return []api.Position{q}
			}
		}
		return nil
	}
	first := find(func(n int) int { return n })
	return append(first, find(func(n int) int { return count - 1 - n })...)
}

// dice gives numbers that look like random ones, always the same.
type dice uint64

func (d *dice) roll(n int) int {
	*d = *d*6364136223846793005 + 1442695040888963407
	return int(uint64(*d)>>33) % n
}

// mixture returns a position that is often valid: pieces on about one square of some, a king of each side, and mostly rights and a Passant that fit.
func mixture(s api.Size, d *dice, thin int) api.Position {
	p := empty(s, d.roll(2) == 0)
	for at := range p.Pieces {
		if d.roll(thin) == 0 {
			p.Pieces[at] = [...]api.Piece{-5, -4, -3, -2, -1, -1, 1, 1, 2, 3, 4, 5}[d.roll(12)]
		}
	}
	white, black := d.roll(len(p.Pieces)), d.roll(len(p.Pieces))
	if len(p.Pieces) == 64 && d.roll(3) > 0 {
		white, black, p.Castle = 4, 60, uint8(d.roll(16))
		p.Pieces[0], p.Pieces[7], p.Pieces[56], p.Pieces[63] = 4, 4, -4, -4
	}
	p.Pieces[white], p.Pieces[black] = 6, -6
	p.Half = [...]int{0, 3, 9999, 10000}[d.roll(4)]
	p.Full = [...]int{1, 7, 9999, 10000}[d.roll(4)]
	if s.Ranks >= 6 && d.roll(2) == 0 {
		p = passed(p, d.roll(s.Files))
	}
	return p
}

// passed returns a position in which a pawn of the side that is not to move has just gone two ranks, with pawns of the other side beside it.
func passed(p api.Position, file int) api.Position {
	own := side(p)
	second := p.Size.Ranks - 2
	if own < 0 {
		second = 1
	}
	square := func(steps int) int { return file + (second-steps*own)*p.Size.Files }
	return changed(p, func(q *api.Position) {
		q.Pieces[square(0)], q.Pieces[square(1)], q.Pieces[square(2)] = 0, 0, api.Piece(-own)
		q.Passant, q.Half = square(1), 0
		for _, beside := range []int{-1, 1} {
			if n := file + beside; 0 <= n && n < p.Size.Files && abs(int(q.Pieces[square(2)+beside])) != 6 {
				q.Pieces[square(2)+beside] = api.Piece(own)
			}
		}
	})
}

// samples returns valid positions of a size.
func samples(s api.Size, n int) []api.Position {
	d := dice(s.Files<<8 + s.Ranks)
	var l []api.Position
	for i := 0; len(l) < n; i++ {
		if p := mixture(s, &d, 1+i%11); position.Valid(p) {
			l = append(l, p)
		}
	}
	return l
}

// known returns the position with a text.
func known(t *testing.T, text string) api.Position {
	t.Helper()
	p, e := position.Parse(text)
	if e != api.OK {
		t.Fatal("not the text of a valid position:", text)
	}
	return p
}

// line returns the moves with a text.
func line(t *testing.T, s api.Size, text string) []api.Move {
	t.Helper()
	l, _, e := move.ParseLine(s, text)
	if e != api.OK {
		t.Fatal("not the text of valid moves:", text)
	}
	return l
}

// textOf returns the text of a position, or that of none.
func textOf(p api.Position) string {
	text, _ := position.Text(p)
	return text
}

// lineOf returns the text of some moves, or that of none.
func lineOf(s api.Size, l []api.Move) string {
	text, _ := move.Line(s, l)
	return text
}
