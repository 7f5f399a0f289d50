package legal_test

import (
	"slices"
	"testing"

	"caissa/api"
	"caissa/move"
	"caissa/position"
)

// The definitions of chapters 4 to 10, written out without the functions of the layers that the package calls, but for the validity of positions and moves: moves are put together step by step along directions, made on a board, and kept if the king cannot be captured then.

// way is a direction in which a piece goes, in files and ranks.
type way struct{ files, ranks int }

// kindOf returns the kind of the piece on a square.
func kindOf(p api.Position, at int) api.Piece { return max(p.Pieces[at], -p.Pieces[at]) }

// belongs tells whether a piece of a side is on a square.
func belongs(p api.Position, at int, black bool) bool {
	return p.Pieces[at] != 0 && (p.Pieces[at] < 0) == black
}

// forward returns the direction of the pawns of a side.
func forward(black bool) int {
	if black {
		return -1
	}
	return 1
}

// gait returns the directions in which the piece on a square attacks, and how many steps it goes at most.
func gait(p api.Position, at int) ([]way, int) {
	straight := []way{{1, 0}, {0, 1}, {-1, 0}, {0, -1}}
	slanting := []way{{1, 1}, {-1, 1}, {-1, -1}, {1, -1}}
	switch kindOf(p, at) {
	case api.Pawn:
		ranks := forward(p.Pieces[at] < 0)
		return []way{{-1, ranks}, {1, ranks}}, 1
	case api.Knight:
		return []way{{1, 2}, {2, 1}, {2, -1}, {1, -2}, {-1, -2}, {-2, -1}, {-2, 1}, {-1, 2}}, 1
	case api.Bishop:
		return slanting, 8
	case api.Rook:
		return straight, 8
	case api.Queen:
		return append(straight, slanting...), 8
	case api.King:
		return append(straight, slanting...), 1
	}
	return nil, 0
}

// walk returns the squares in a direction, up to the first one with a piece, and this one.
func walk(p api.Position, from int, w way, steps int) []int {
	var l []int
	file, rank := from%p.Size.Files, from/p.Size.Files
	for range steps {
		file, rank = file+w.files, rank+w.ranks
		if file < 0 || file >= p.Size.Files || rank < 0 || rank >= p.Size.Ranks {
			break
		}
		at := file + rank*p.Size.Files
		l = append(l, at)
		if p.Pieces[at] != 0 {
			break
		}
	}
	return l
}

// attacked returns the squares that the piece on a square attacks.
func attacked(p api.Position, from int) []int {
	var l []int
	ways, steps := gait(p, from)
	for _, w := range ways {
		l = append(l, walk(p, from, w, steps)...)
	}
	return l
}

// attackers returns the squares of the pieces of a side that attack a square.
func attackers(p api.Position, at int, black bool) []int {
	var l []int
	for from := range p.Pieces {
		if belongs(p, from, black) && slices.Contains(attacked(p, from), at) {
			l = append(l, from)
		}
	}
	return l
}

// checkers returns the squares of the pieces that give check to a side.
func checkers(p api.Position, black bool) []int {
	king := api.King * api.Piece(forward(black))
	return attackers(p, slices.Index(p.Pieces, king), !black)
}

// pawnTargets returns the squares to which an own pawn goes.
func pawnTargets(p api.Position, from int) []int {
	steps, second := 1, 1
	if p.Black {
		second = p.Size.Ranks - 2
	}
	if p.Size.Ranks >= 6 && from/p.Size.Files == second {
		steps = 2
	}
	ahead := slices.DeleteFunc(walk(p, from, way{0, forward(p.Black)}, steps), func(to int) bool { return p.Pieces[to] != 0 })
	aside := slices.DeleteFunc(attacked(p, from), func(to int) bool { return to != p.Passant && !belongs(p, to, !p.Black) })
	return append(ahead, aside...)
}

// castling is a way of castling: its side, its right, the squares that must be empty, and those of the rook.
type castling struct {
	black        bool
	bit          uint8
	empty        []int
	rook, rookTo int
}

// castlings has the ways of castling by the moves of the kings.
var castlings = map[api.Move]castling{
	{From: 4, To: 6}:   {false, 1, []int{5, 6}, 7, 5},
	{From: 4, To: 2}:   {false, 2, []int{1, 2, 3}, 0, 3},
	{From: 60, To: 62}: {true, 4, []int{61, 62}, 63, 61},
	{From: 60, To: 58}: {true, 8, []int{57, 58, 59}, 56, 59},
}

// kingTargets returns the squares to which the own king castles.
func kingTargets(p api.Position, from int) []int {
	var l []int
	for m, c := range castlings {
		taken := func(at int) bool { return p.Pieces[at] != 0 }
		if p.Castle&c.bit != 0 && p.Black == c.black && m.From == from && !slices.ContainsFunc(c.empty, taken) {
			l = append(l, m.To)
		}
	}
	return l
}

// targets returns the squares to which the own piece on a square goes, in order, whether its king can be captured then or not.
func targets(p api.Position, from int) []int {
	l := attacked(p, from)
	switch kindOf(p, from) {
	case api.Pawn:
		l = pawnTargets(p, from)
	case api.King:
		l = append(l, kingTargets(p, from)...)
	}
	l = slices.DeleteFunc(l, func(to int) bool { return belongs(p, to, p.Black) })
	slices.Sort(l)
	return l
}

// after returns the position after a pseudo-legal move, whose counters may be too great.
func after(p api.Position, m api.Move) api.Position {
	q := copied(p)
	pawn, files := kindOf(p, m.From) == api.Pawn, m.To%p.Size.Files-m.From%p.Size.Files
	q.Half++
	if pawn || p.Pieces[m.To] != 0 {
		q.Half = 0
	}
	if pawn && files != 0 && p.Pieces[m.To] == 0 {
		q.Pieces[m.From+files] = 0
	}
	q.Pieces[m.To], q.Pieces[m.From] = p.Pieces[m.From], 0
	if m.Promote != 0 {
		q.Pieces[m.To] *= m.Promote
	}
	if c, ok := castlings[m]; ok && p.Castle&c.bit != 0 {
		q.Pieces[c.rookTo], q.Pieces[c.rook] = p.Pieces[c.rook], 0
	}
	q.Passant = -1
	if n := m.To - m.From; pawn && (n == 2*p.Size.Files || n == -2*p.Size.Files) {
		q.Passant = m.From + n/2
	}
	for king, c := range castlings {
		for _, at := range []int{m.From, m.To} {
			if at == king.From || at == c.rook {
				q.Castle &^= c.bit
			}
		}
	}
	if q.Black = !p.Black; p.Black {
		q.Full++
	}
	return q
}

// safe tells whether the own king cannot be captured after a pseudo-legal move.
func safe(p api.Position, m api.Move) bool {
	if c, ok := castlings[m]; ok && p.Castle&c.bit != 0 && len(checkers(p, p.Black))+len(attackers(p, c.rookTo, !p.Black)) > 0 {
		return false
	}
	return len(checkers(after(p, m), p.Black)) == 0
}

// pseudoFrom returns the pseudo-legal moves from a square, in order.
func pseudoFrom(p api.Position, from int) []api.Move {
	if !belongs(p, from, p.Black) {
		return nil
	}
	var l []api.Move
	for _, to := range targets(p, from) {
		kinds := []api.Piece{0}
		if rank := to / p.Size.Files; kindOf(p, from) == api.Pawn && (rank == 0 && p.Black || rank == p.Size.Ranks-1 && !p.Black) {
			kinds = []api.Piece{2, 3, 4, 5}
		}
		for _, kind := range kinds {
			l = append(l, api.Move{From: from, To: to, Promote: kind})
		}
	}
	return l
}

// legalFrom returns the legal moves from a square, in order.
func legalFrom(p api.Position, from int) []api.Move {
	return slices.DeleteFunc(pseudoFrom(p, from), func(m api.Move) bool { return !safe(p, m) })
}

// full tells whether a counter is too great.
func full(p api.Position) bool { return p.Half > 10000 || p.Full > 10000 }

// Positions, and how to change them

// sizes returns all valid sizes.
func sizes() []api.Size {
	l := make([]api.Size, 36)
	for n := range l {
		l[n] = api.Size{Files: 3 + n%6, Ranks: 3 + n/6}
	}
	return l
}

// bare returns a position without pieces, which is not valid.
func bare(s api.Size, black bool) api.Position {
	return api.Position{Size: s, Black: black, Passant: -1, Full: 1, Pieces: make([]api.Piece, s.Files*s.Ranks)}
}

// copied returns the same position in new memory.
func copied(p api.Position) api.Position {
	p.Pieces = slices.Clone(p.Pieces)
	return p
}

// changed returns a position in new memory with a change.
func changed(p api.Position, change func(*api.Position)) api.Position {
	p = copied(p)
	change(&p)
	return p
}

// same tells whether two positions, valid or not, are equal in all parts.
func same(p, q api.Position) bool {
	pieces := slices.Equal(p.Pieces, q.Pieces)
	return pieces && p.Size == q.Size && p.Black == q.Black && p.Castle == q.Castle && p.Passant == q.Passant && p.Half == q.Half && p.Full == q.Full
}

// mirrored returns a position with the ranks and the sides exchanged.
func mirrored(p api.Position) api.Position {
	q := bare(p.Size, !p.Black)
	q.Castle, q.Half, q.Full = p.Castle>>2|p.Castle<<2&12, p.Half, p.Full
	for at, piece := range p.Pieces {
		q.Pieces[mirroredSquare(p.Size, at)] = -piece
	}
	if p.Passant != -1 {
		q.Passant = mirroredSquare(p.Size, p.Passant)
	}
	return q
}

// mirroredSquare returns a square with the ranks exchanged.
func mirroredSquare(s api.Size, at int) int {
	return at%s.Files + (s.Ranks-1-at/s.Files)*s.Files
}

// mirroredMoves returns moves with the ranks exchanged, in order.
func mirroredMoves(s api.Size, l []api.Move) []api.Move {
	l = slices.Clone(l)
	for i, m := range l {
		l[i].From, l[i].To = mirroredSquare(s, m.From), mirroredSquare(s, m.To)
	}
	slices.SortFunc(l, move.Compare)
	return l
}

// random gives numbers that look like random ones, always the same.
type random uint64

func (r *random) below(n int) int {
	*r = *r*6364136223846793005 + 1442695040888963407
	return int(uint64(*r) >> 33 % uint64(n))
}

func (r *random) of(l ...int) int { return l[r.below(len(l))] }

// scattered returns a position that is often valid: pieces on about one square of some, a king of each side, mostly with rights on a board of 64 squares, and often a pawn that has just gone two ranks.
func scattered(s api.Size, r *random, thin int) api.Position {
	p := bare(s, r.below(2) == 1)
	for at := range p.Pieces {
		if r.below(thin) == 0 {
			p.Pieces[at] = api.Piece(r.of(1, 1, 2, 3, 4, 5) * r.of(-1, 1))
		}
	}
	kings := [2]int{r.below(len(p.Pieces)), r.below(len(p.Pieces))}
	if len(p.Pieces) == 64 && r.below(2) == 0 {
		kings = [2]int{4, 60}
		p.Castle = uint8(r.below(16))
		for _, c := range castlings {
			p.Pieces[c.rook] = api.Rook * api.Piece(forward(c.black))
		}
	}
	p.Pieces[kings[0]], p.Pieces[kings[1]] = api.King, -api.King
	p.Half, p.Full = r.of(0, 0, 1, 9999, 10000), r.of(1, 2, 9999, 10000)
	if s.Ranks >= 6 && r.below(2) == 0 {
		return stepped(p, r.below(s.Files), r)
	}
	return p
}

// stepped returns a position in which a pawn of the side that is not to move has just gone two ranks on a file, mostly with a pawn of the other side beside it.
func stepped(p api.Position, file int, r *random) api.Position {
	q := copied(p)
	back := forward(p.Black) * p.Size.Files
	second := file + p.Size.Files
	if !p.Black {
		second = file + (p.Size.Ranks-2)*p.Size.Files
	}
	there := second - 2*back
	q.Pieces[second], q.Pieces[second-back], q.Pieces[there] = 0, 0, api.Piece(-forward(p.Black))
	q.Passant, q.Half = second-back, 0
	if beside := file + r.of(-1, 1); 0 <= beside && beside < p.Size.Files && kindOf(q, there+beside-file) != api.King {
		q.Pieces[there+beside-file] = api.Piece(forward(p.Black))
	}
	return q
}

// samples returns valid positions of a size.
func samples(s api.Size, n int) []api.Position {
	r := random(s.Files*100 + s.Ranks)
	var l []api.Position
	for i := 0; len(l) < n; i++ {
		if p := scattered(s, &r, 1+i%9); position.Valid(p) {
			l = append(l, p)
		}
	}
	return l
}

// known returns the position with a text.
func known(t *testing.T, text string) api.Position {
	t.Helper()
	p, e := position.Parse(text)
	if e != api.OK {
		t.Fatal(text, "is not the text of a valid position")
	}
	return p
}

// moves returns the moves with a text.
func moves(t *testing.T, p api.Position, text string) []api.Move {
	t.Helper()
	l, wrong, e := move.ParseLine(p.Size, text)
	if e != api.OK {
		t.Fatal(text, "has a word that is not the text of a valid move:", wrong)
	}
	return l
}

// textOf returns the text of a position, or nothing.
func textOf(p api.Position) string {
	text, _ := position.Text(p)
	return text
}

// lineOf returns the text of moves, or nothing.
func lineOf(p api.Position, l []api.Move) string {
	text, _ := move.Line(p.Size, l)
	return text
}
