package making_test

import (
	"math"
	"slices"
	"strings"
	"testing"

	"caissa/api"
	"caissa/making"
	"caissa/move"
	"caissa/position"
)

// numbers are at, beside and far beyond the limits of the layer; some are within them if only their last bits are looked at.
var numbers = []int{math.MinInt, math.MinInt + 1, -1<<32 - 1, -1<<32 + 1, math.MinInt32, -65536, -10001, -10000, -257, -256, -64, -9, -2, -1, 0, 1, 2, 7, 8, 9, 11, 16, 20, 44, 60, 63, 64, 65, 255, 256, 9999, 10000, 10001, 65536, math.MaxInt32, 1 << 32, 1<<32 + 1, math.MaxInt - 1, math.MaxInt}

// badSizes are sizes that are not valid; the number of squares of some of them is that of a valid one, or overflows to it.
var badSizes = []api.Size{{}, {Files: 2, Ranks: 3}, {Files: 3, Ranks: 2}, {Files: 2, Ranks: 6}, {Files: 6, Ranks: 2}, {Files: 9, Ranks: 3}, {Files: 3, Ranks: 9}, {Files: 1, Ranks: 9}, {Files: 9, Ranks: 1}, {Files: 0, Ranks: 8}, {Files: 8, Ranks: 0}, {Files: -3, Ranks: -3}, {Files: 16, Ranks: 4}, {Files: 1<<62 + 3, Ranks: 4}, {Files: 264, Ranks: 8}, {Files: math.MaxInt, Ranks: math.MaxInt}, {Files: math.MinInt, Ranks: math.MinInt}}

// sides has the two answers to whether Black is to move.
var sides = []bool{false, true}

// promotes has all that Promote may be in a valid move.
var promotes = []api.Piece{0, 2, 3, 4, 5}

const (
	usual   = "8x8 rnbqkbnr/pppppppp/8/8/8/8/PPPPPPPP/RNBQKBNR w KQkq - 0 1"
	corners = "8x8 r3k2r/8/8/8/8/8/8/R3K2R w KQkq - 3 9"
	limit   = 10000
	lines   = 1000
)

// sizes returns all valid sizes.
func sizes() []api.Size {
	var l []api.Size
	for files := 3; files <= 8; files++ {
		for ranks := 3; ranks <= 8; ranks++ {
			l = append(l, api.Size{Files: files, Ranks: ranks})
		}
	}
	return l
}

// man is a piece on a square.
type man struct {
	at int
	p  api.Piece
}

// with returns a position with some pieces, of which later ones take the places of earlier ones, and nothing else.
func with(s api.Size, black bool, men ...man) api.Position {
	p := api.Position{Size: s, Pieces: make([]api.Piece, s.Files*s.Ranks), Black: black, Passant: -1, Full: 1}
	for _, m := range men {
		p.Pieces[m.at] = m.p
	}
	return p
}

// clone returns the same position in new memory.
func clone(p api.Position) api.Position {
	p.Pieces = append([]api.Piece(nil), p.Pieces...)
	return p
}

// changed returns a position in new memory with a change.
func changed(p api.Position, change func(*api.Position)) api.Position {
	p = clone(p)
	change(&p)
	return p
}

// same tells whether two positions are equal in all parts.
func same(p, q api.Position) bool {
	return p.Size == q.Size && slices.Equal(p.Pieces, q.Pieces) && p.Black == q.Black && p.Castle == q.Castle && p.Passant == q.Passant && p.Half == q.Half && p.Full == q.Full
}

// zero tells whether a position is the zero value.
func zero(p api.Position) bool {
	return len(p.Pieces) == 0 && same(api.Position{Pieces: p.Pieces}, p)
}

// known returns the position with a text.
func known(t *testing.T, text string) api.Position {
	t.Helper()
	p, e := position.Parse(text)
	if e != api.OK {
		t.Fatal("not the text of a valid position:", text)
	}
	return p
}

// moving returns the move with a text.
func moving(t *testing.T, s api.Size, text string) api.Move {
	t.Helper()
	m, e := move.Parse(s, text)
	if e != api.OK {
		t.Fatal("not the text of a valid move:", text)
	}
	return m
}

// line returns the moves with a text.
func line(t *testing.T, s api.Size, text string) []api.Move {
	t.Helper()
	l, _, e := move.ParseLine(s, text)
	if e != api.OK {
		t.Fatal("not the text of valid moves:", text)
	}
	return l
}

// textOf returns the text of a position, or that of none.
func textOf(p api.Position) string {
	text, _ := position.Text(p)
	return text
}

// dice gives numbers that look like random ones, always the same.
type dice uint64

func (d *dice) roll(n int) int {
	*d = *d*6364136223846793005 + 1442695040888963407
	return int(uint64(*d)>>33) % n
}

// The definitions of the chapter, written out without the functions of the layers that the package calls, but for the validity of positions and moves.

func magnitude(n int) int { return max(n, -n) }

func sign(n int) int {
	if n == 0 {
		return 0
	}
	return n / magnitude(n)
}

// apart returns how many files and ranks a square is away from another one.
func apart(s api.Size, from, to int) (files, ranks int) {
	return to%s.Files - from%s.Files, to/s.Files - from/s.Files
}

// attacks tells whether the piece on a square attacks another square.
func attacks(p api.Position, from, to int) bool {
	files, ranks := apart(p.Size, from, to)
	wide, high := magnitude(files), magnitude(ranks)
	if wide+high == 0 {
		return false
	}
	straight, slanting := wide*high == 0, wide == high
	switch piece := p.Pieces[from]; piece {
	case 1, -1:
		return wide == 1 && ranks == int(piece)
	case 2, -2:
		return wide*high == 2
	case 3, -3:
		return slanting && free(p, from, to)
	case 4, -4:
		return straight && free(p, from, to)
	case 5, -5:
		return (straight || slanting) && free(p, from, to)
	case 6, -6:
		return max(wide, high) == 1
	}
	return false
}

// free tells whether the squares between two squares on a line are empty.
func free(p api.Position, from, to int) bool {
	files, ranks := apart(p.Size, from, to)
	step := sign(files) + sign(ranks)*p.Size.Files
	for at := from + step; at != to; at += step {
		if p.Pieces[at] != 0 {
			return false
		}
	}
	return true
}

// holds tells whether a piece of a side is on a square.
func holds(p api.Position, at int, black bool) bool {
	return black && p.Pieces[at] < 0 || !black && p.Pieces[at] > 0
}

// attacked tells whether a side attacks a square.
func attacked(p api.Position, at int, black bool) bool {
	for from := range p.Pieces {
		if holds(p, from, black) && attacks(p, from, at) {
			return true
		}
	}
	return false
}

// checked tells whether a side is in check.
func checked(p api.Position, black bool) bool {
	king := api.Piece(6)
	if black {
		king = -6
	}
	return attacked(p, slices.Index(p.Pieces, king), !black)
}

// way is a way of castling: the king, the right, the squares that must be empty, and those of the rook.
type way struct {
	king     api.Piece
	bit      uint8
	empty    []int
	rook, to int
}

// ways has the ways of castling by the moves of the kings.
var ways = map[api.Move]way{
	{From: 4, To: 6}:   {6, 1, []int{5, 6}, 7, 5},
	{From: 4, To: 2}:   {6, 2, []int{1, 2, 3}, 0, 3},
	{From: 60, To: 62}: {-6, 4, []int{61, 62}, 63, 61},
	{From: 60, To: 58}: {-6, 8, []int{57, 58, 59}, 56, 59},
}

// castling returns the way in which a move castles, and whether it does.
func castling(p api.Position, m api.Move) (way, bool) {
	w, ok := ways[m]
	if !ok || len(p.Pieces) != 64 || p.Pieces[m.From] != w.king || p.Black != (w.king < 0) || p.Castle&w.bit == 0 {
		return way{}, false
	}
	for _, at := range w.empty {
		if p.Pieces[at] != 0 {
			return way{}, false
		}
	}
	return w, true
}

// pawnMovesSo tells whether a pawn moves so.
func pawnMovesSo(p api.Position, m api.Move) bool {
	files, ranks := apart(p.Size, m.From, m.To)
	second, last, to := 1, p.Size.Ranks-1, m.To/p.Size.Files
	if p.Black {
		ranks, second, last = -ranks, p.Size.Ranks-2, 0
	}
	if (to == last) != (m.Promote != 0) || p.Pieces[m.To] != 0 && files == 0 {
		return false
	}
	switch {
	case files == 0 && ranks == 1:
		return true
	case files == 0 && ranks == 2:
		return p.Size.Ranks >= 6 && m.From/p.Size.Files == second && free(p, m.From, m.To)
	case magnitude(files) == 1 && ranks == 1:
		return holds(p, m.To, !p.Black) || m.To == p.Passant
	}
	return false
}

// movesSo tells whether an own piece moves so.
func movesSo(p api.Position, m api.Move) bool {
	if holds(p, m.To, p.Black) {
		return false
	}
	if magnitude(int(p.Pieces[m.From])) == 1 {
		return pawnMovesSo(p, m)
	}
	_, castles := castling(p, m)
	return m.Promote == 0 && attacks(p, m.From, m.To) || castles
}

// lost has the rights that are lost by moves from or to a square.
var lost = map[int]uint8{0: 2, 4: 3, 7: 1, 56: 8, 60: 12, 63: 4}

// moved returns the position after a move and its record.
func moved(p api.Position, m api.Move) (api.Position, api.Undo) {
	q, u := clone(p), api.Undo{Move: m, At: -1, Castle: p.Castle, Passant: p.Passant, Half: p.Half, Full: p.Full}
	files, ranks := apart(p.Size, m.From, m.To)
	piece := p.Pieces[m.From]
	pawn := piece == 1 || piece == -1
	taken := m.To
	if pawn && files != 0 && p.Pieces[m.To] == 0 {
		taken = m.From + files
	}
	if p.Pieces[taken] != 0 {
		u.Captured, u.At = p.Pieces[taken], taken
		q.Pieces[taken] = 0
	}
	q.Pieces[m.From], q.Pieces[m.To] = 0, piece
	if m.Promote != 0 {
		q.Pieces[m.To] = m.Promote * piece
	}
	if w, ok := castling(p, m); ok {
		q.Pieces[w.to], q.Pieces[w.rook] = p.Pieces[w.rook], 0
	}
	q.Castle &^= lost[m.From] | lost[m.To]
	q.Black, q.Passant, q.Half = !p.Black, -1, p.Half+1
	if pawn && magnitude(ranks) == 2 {
		q.Passant = m.From + ranks/2*p.Size.Files
	}
	if pawn || u.At >= 0 {
		q.Half = 0
	}
	if p.Black {
		q.Full++
	}
	return q, u
}

// made returns what Make has to return.
func made(p api.Position, m api.Move) (api.Position, api.Undo, api.Errno) {
	if !position.Valid(p) || !move.Valid(p.Size, m) {
		return api.Position{}, api.Undo{}, api.ErrArg
	}
	if !holds(p, m.From, p.Black) {
		return api.Position{}, api.Undo{}, api.ErrNone
	}
	if !movesSo(p, m) {
		return api.Position{}, api.Undo{}, api.ErrCheck
	}
	q, u := moved(p, m)
	w, castles := castling(p, m)
	if checked(q, p.Black) || castles && (checked(p, p.Black) || attacked(p, w.to, !p.Black)) {
		return api.Position{}, api.Undo{}, making.ErrKing
	}
	if q.Half > limit || q.Full > limit {
		return api.Position{}, api.Undo{}, api.ErrFull
	}
	return q, u, api.OK
}

// unmade returns what Unmake has to return. All positions that the record leaves open are tried: which piece was on From, and whether a rook has gone.
func unmade(p api.Position, u api.Undo) (api.Position, api.Errno) {
	if !position.Valid(p) || !move.Valid(p.Size, u.Move) {
		return api.Position{}, api.ErrArg
	}
	for _, piece := range []api.Piece{p.Pieces[u.Move.To], 1, -1} {
		for _, rook := range []api.Piece{0, 4, -4} {
			q := clone(p)
			q.Pieces[u.Move.From], q.Pieces[u.Move.To] = piece, 0
			if w, ok := ways[u.Move]; ok && rook != 0 && len(p.Pieces) == 64 {
				q.Pieces[w.rook], q.Pieces[w.to] = rook, 0
			}
			if 0 <= u.At && u.At < len(p.Pieces) {
				q.Pieces[u.At] = u.Captured
			}
			q.Black, q.Castle, q.Passant, q.Half, q.Full = !p.Black, u.Castle, u.Passant, u.Half, u.Full
			if after, v, e := made(q, u.Move); e == api.OK && v == u && same(after, p) {
				return q, api.OK
			}
		}
	}
	return api.Position{}, api.ErrCheck
}

// possible returns the moves in a valid position with which the pieces move so.
func possible(p api.Position) []api.Move {
	var l []api.Move
	for from := range p.Pieces {
		for to := range p.Pieces {
			for _, kind := range promotes {
				m := api.Move{From: from, To: to, Promote: kind}
				if from != to && holds(p, from, p.Black) && movesSo(p, m) {
					l = append(l, m)
				}
			}
		}
	}
	return l
}

// The calls of the functions that are tested, each compared with what it has to return.

// checkMake checks a call of Make, and returns what it has to return.
func checkMake(t *testing.T, p api.Position, m api.Move) (api.Position, api.Undo, api.Errno) {
	t.Helper()
	before := clone(p)
	want, wantU, wantE := made(p, m)
	q, u, e := making.Make(p, m)
	if !same(q, want) || u != wantU || e != wantE || e != api.OK && !zero(q) {
		t.Fatal(textOf(p), p, m, "leads to", textOf(q), q, u, e, "want", textOf(want), want, wantU, wantE)
	}
	if !same(p, before) {
		t.Fatal("was changed:", before, "to", p)
	}
	return want, wantU, wantE
}

// checkUnmake checks a call of Unmake, and returns its error.
func checkUnmake(t *testing.T, p api.Position, u api.Undo) api.Errno {
	t.Helper()
	before := clone(p)
	want, wantE := unmade(p, u)
	q, e := making.Unmake(p, u)
	if !same(q, want) || e != wantE || e != api.OK && !zero(q) {
		t.Fatal(textOf(p), p, u, "came from", textOf(q), q, e, "want", textOf(want), want, wantE)
	}
	if !same(p, before) {
		t.Fatal("was changed:", before, "to", p)
	}
	return e
}

// checkError checks that Make returns an error.
func checkError(t *testing.T, p api.Position, m api.Move, want api.Errno) {
	t.Helper()
	if q, u, e := making.Make(p, m); !zero(q) || u != (api.Undo{}) || e != want {
		t.Error(textOf(p), p, m, "leads to", q, u, e, "want", want)
	}
}

// checkStep checks that Make leads from a text to another one, with a record, and Unmake back, or that it returns an error.
func checkStep(t *testing.T, from, text, to string, captured api.Piece, at string, want api.Errno) {
	t.Helper()
	p := known(t, from)
	m := moving(t, p.Size, text)
	checkMake(t, p, m)
	if want != api.OK {
		checkError(t, p, m, want)
		return
	}
	record := api.Undo{Move: m, Captured: captured, At: -1, Castle: p.Castle, Passant: p.Passant, Half: p.Half, Full: p.Full}
	if at != "" {
		record.At = int(at[0]-'a') + int(at[1]-'1')*p.Size.Files
	}
	q, u, e := making.Make(p, m)
	if !same(q, known(t, to)) || u != record || e != api.OK {
		t.Error(from, text, "leads to", textOf(q), u, e, "want", to, record)
	}
	if back, e := making.Unmake(q, u); !same(back, p) || e != api.OK {
		t.Error(from, text, "is taken back to", textOf(back), e)
	}
}

// mixture returns a position that is often valid: pieces on about one square of some, a king of each side, and mostly rights and a Passant that fit.
func mixture(s api.Size, d *dice, thin int) api.Position {
	p := with(s, d.roll(2) == 1)
	for at := range p.Pieces {
		if d.roll(thin) == 0 {
			p.Pieces[at] = api.Piece(d.roll(5)+1) * api.Piece(1-2*d.roll(2))
		}
		if rank := at / s.Files; p.Pieces[at] == 1 && rank == s.Ranks-1 || p.Pieces[at] == -1 && rank == 0 {
			p.Pieces[at] *= -1
		}
	}
	homes := [2]int{d.roll(len(p.Pieces)), d.roll(len(p.Pieces))}
	if len(p.Pieces) == 64 && d.roll(3) > 0 {
		homes = [2]int{4, 60}
		for i, at := range [...]int{0, 7, 56, 63} {
			p.Pieces[at] = [...]api.Piece{4, 4, -4, -4}[i]
		}
		p.Castle = uint8(d.roll(16))
	}
	p.Pieces[homes[0]], p.Pieces[homes[1]] = 6, -6
	p.Half = [...]int{0, 1, d.roll(limit), limit - 1, limit}[d.roll(5)]
	p.Full = [...]int{1, 2, d.roll(limit) + 1, limit - 1, limit}[d.roll(5)]
	if d.roll(2) == 0 && s.Ranks >= 6 {
		p.Half = 0
		p = stepped(p, d.roll(s.Files))
	}
	return p
}

// stepped puts a pawn of the side that is not to move on a file as if it had just gone two ranks, and pawns of the other side beside it.
func stepped(p api.Position, file int) api.Position {
	pawn, from, forward := api.Piece(1), p.Size.Files+file, p.Size.Files
	if !p.Black {
		pawn, from, forward = -1, (p.Size.Ranks-2)*p.Size.Files+file, -p.Size.Files
	}
	p.Pieces[from], p.Pieces[from+forward], p.Pieces[from+2*forward] = 0, 0, pawn
	p.Passant = from + forward
	if at := from + 2*forward - 1; file > 0 && magnitude(int(p.Pieces[at])) != 6 {
		p.Pieces[at] = -pawn
	}
	if at := from + 2*forward + 1; file < p.Size.Files-1 && magnitude(int(p.Pieces[at])) != 6 {
		p.Pieces[at] = -pawn
	}
	return p
}

// samples returns valid positions of a size.
func samples(s api.Size, n int) []api.Position {
	d := dice(s.Files*10 + s.Ranks)
	var l []api.Position
	for i := 0; len(l) < n; i++ {
		if p := mixture(s, &d, 2+i%12); position.Valid(p) {
			l = append(l, p)
		}
	}
	return l
}

// step is a move with what it leads from and to.
type step struct {
	p, q api.Position
	u    api.Undo
}

// steps returns all moves of some positions of all sizes that can be made.
func steps(n int) []step {
	var l []step
	for _, s := range sizes() {
		for _, p := range samples(s, n) {
			for _, m := range possible(p) {
				if q, u, e := made(p, m); e == api.OK {
					l = append(l, step{p, q, u})
				}
			}
		}
	}
	return l
}

// game returns moves that can be made one after the other, with all positions and records, at most some.
func game(p api.Position, d *dice, n int) (l []api.Move, positions []api.Position, records []api.Undo) {
	positions = append(positions, p)
	for range n {
		all := possible(p)
		for len(all) > 0 {
			i := d.roll(len(all))
			q, u, e := made(p, all[i])
			if e == api.OK {
				l, positions, records = append(l, all[i]), append(positions, q), append(records, u)
				p = q
				break
			}
			all = slices.Delete(all, i, i+1)
		}
		if len(all) == 0 {
			break
		}
	}
	return l, positions, records
}

// kindOf returns words for what is special about a move in a position.
func kindOf(p api.Position, m api.Move, u api.Undo, e api.Errno) []string {
	if e != api.OK {
		return []string{map[api.Errno]string{api.ErrNone: "none", api.ErrCheck: "check", making.ErrKing: "king", api.ErrFull: "full"}[e]}
	}
	l := []string{"made"}
	if w, ok := castling(p, m); ok {
		l = append(l, "castles "+string('0'+rune(w.bit)))
	}
	if u.At >= 0 && u.At != m.To {
		l = append(l, "passant")
	} else if u.At >= 0 {
		l = append(l, "captures")
	}
	if m.Promote != 0 {
		l = append(l, "promotes")
	}
	if _, ranks := apart(p.Size, m.From, m.To); magnitude(int(p.Pieces[m.From])) == 1 && magnitude(ranks) == 2 {
		l = append(l, "steps")
	}
	return l
}

// checkCounts checks that each word was counted often enough.
func checkCounts(t *testing.T, counts map[string]int, least int, words ...string) {
	t.Helper()
	for _, word := range words {
		if counts[word] < least {
			t.Error("only", counts[word], word)
		}
	}
}

// P8.1

// All moves of own pieces, and those without promotion from all other squares, are tried on boards of all sizes.
func TestMake(t *testing.T) {
	counts := map[string]int{}
	for _, s := range sizes() {
		for _, p := range samples(s, 16) {
			for from := range p.Pieces {
				kinds := promotes
				if !holds(p, from, p.Black) {
					kinds = promotes[:1]
				}
				for to := range p.Pieces {
					for _, kind := range kinds {
						m := api.Move{From: from, To: to, Promote: kind}
						_, u, e := checkMake(t, p, m)
						for _, word := range kindOf(p, m, u, e) {
							counts[word]++
						}
					}
				}
			}
		}
	}
	checkCounts(t, counts, 5, "made", "none", "check", "king", "full", "passant", "captures", "promotes", "steps")
}

// Moves with which the pieces move so are tried in many more positions.
func TestMakePossible(t *testing.T) {
	counts := map[string]int{}
	for _, s := range sizes() {
		n := 60
		if s.Files*s.Ranks == 64 {
			n = 1500
		}
		for _, p := range samples(s, n) {
			for _, m := range possible(p) {
				_, u, e := checkMake(t, p, m)
				for _, word := range kindOf(p, m, u, e) {
					counts[word]++
				}
			}
		}
	}
	checkCounts(t, counts, 20, "castles 1", "castles 2", "castles 4", "castles 8", "made", "king", "full", "passant", "captures", "promotes", "steps")
}

// withKings returns a position with two kings more, neither of which is in check, and none of which is on some squares; or none.
func withKings(p api.Position, empty ...int) (api.Position, bool) {
	for white := range p.Pieces {
		for black := range p.Pieces {
			if p.Pieces[white] != 0 || p.Pieces[black] != 0 || white == black || slices.Contains(empty, white) || slices.Contains(empty, black) {
				continue
			}
			q := changed(p, func(q *api.Position) { q.Pieces[white], q.Pieces[black] = 6, -6 })
			if position.Valid(q) && !checked(q, q.Black) {
				return q, true
			}
		}
	}
	return api.Position{}, false
}

// Each piece is tried on each square of all boards, with all squares to go to.
func TestMakeOnePiece(t *testing.T) {
	count := 0
	for _, s := range sizes() {
		for from := range s.Files * s.Ranks {
			for piece := api.Piece(-5); piece <= 5; piece++ {
				p, ok := withKings(with(s, piece < 0, man{from, piece}))
				if !ok {
					continue
				}
				for to := range p.Pieces {
					for _, kind := range promotes[:1+from%2*4] {
						if _, _, e := checkMake(t, p, api.Move{From: from, To: to, Promote: kind}); e == api.OK {
							count++
						}
					}
				}
			}
		}
	}
	if count < 50000 {
		t.Error("only", count)
	}
}

// A king is tried on each square of all boards: no king goes two squares but by castling.
func TestMakeKing(t *testing.T) {
	for _, s := range sizes() {
		for from := range s.Files * s.Ranks {
			for _, black := range sides {
				for other := range s.Files * s.Ranks {
					own, foe := api.Piece(6), api.Piece(-6)
					if black {
						own, foe = foe, own
					}
					p := with(s, black, man{other, foe}, man{from, own})
					if other%7 != from%7 || !position.Valid(p) {
						continue
					}
					for to := range p.Pieces {
						checkMake(t, p, api.Move{From: from, To: to})
					}
				}
			}
		}
	}
}

// around returns the pieces that are tried before and beside a pawn, in all mixtures.
func around(pawn api.Piece) [][4]api.Piece {
	var l [][4]api.Piece
	for _, near := range []api.Piece{0, 2, -2} {
		for _, far := range []api.Piece{0, 4, -3} {
			for _, left := range []api.Piece{0, 3 * pawn, -4 * pawn} {
				for _, right := range []api.Piece{0, -pawn} {
					l = append(l, [4]api.Piece{near, far, left, right})
				}
			}
		}
	}
	return l
}

// surrounded returns a board with a pawn, two kings that are far away, and pieces before and beside the pawn; or none.
func surrounded(s api.Size, file, rank int, pawn api.Piece, l [4]api.Piece) (api.Position, bool) {
	p := with(s, pawn < 0, man{file + rank*s.Files, pawn})
	for i, to := range [...][2]int{{0, 1}, {0, 2}, {-1, 1}, {1, 1}} {
		f, r := file+to[0], rank+to[1]*int(pawn)
		if 0 <= f && f < s.Files && 0 <= r && r < s.Ranks {
			p.Pieces[f+r*s.Files] = l[i]
		}
	}
	return withKings(p)
}

// Pawns are tried on all squares, with all mixtures of pieces before and beside them.
func TestMakePawn(t *testing.T) {
	counts := map[string]int{}
	for _, s := range sizes() {
		if s.Files > 3 && s != (api.Size{Files: 4, Ranks: 6}) {
			continue
		}
		for at := range s.Files * s.Ranks {
			for _, pawn := range []api.Piece{1, -1} {
				for _, l := range around(pawn) {
					p, ok := surrounded(s, at%s.Files, at/s.Files, pawn, l)
					if !ok {
						continue
					}
					for to := range p.Pieces {
						_, ranks := apart(s, at, to)
						if to == at || magnitude(ranks) > 3 {
							continue
						}
						for _, kind := range promotes[:1+to%2*4] {
							m := api.Move{From: at, To: to, Promote: kind}
							_, u, e := checkMake(t, p, m)
							for _, word := range kindOf(p, m, u, e) {
								counts[word]++
							}
						}
					}
				}
			}
		}
	}
	checkCounts(t, counts, 100, "made", "captures", "promotes", "steps", "check")
}

// A pawn needs Promote on its last rank, whether it steps or captures, and has none elsewhere; other pieces have none anywhere.
func TestPromote(t *testing.T) {
	for _, s := range sizes() {
		for _, pawn := range []api.Piece{1, -1} {
			for file := range s.Files {
				m := api.Move{From: file + (s.Ranks-2)*s.Files, To: file + (s.Ranks-1)*s.Files}
				if pawn < 0 {
					m = api.Move{From: file + s.Files, To: file}
				}
				p, ok := withKings(with(s, pawn < 0, man{m.From, pawn}), m.To)
				if !ok {
					t.Fatal(s, pawn, m)
				}
				checkPromote(t, p, m)
			}
		}
	}
}

// checkPromote tries all numbers as Promote of a move of a pawn to its last rank.
func checkPromote(t *testing.T, p api.Position, m api.Move) {
	t.Helper()
	pawn := p.Pieces[m.From]
	for kind := api.Piece(-7); kind <= 8; kind++ {
		m.Promote = kind
		switch {
		case !slices.Contains(promotes, kind):
			checkError(t, p, m, api.ErrArg)
		case kind == 0:
			checkError(t, p, m, api.ErrCheck)
		default:
			if q, _, e := checkMake(t, p, m); e != api.OK || q.Pieces[m.To] != kind*pawn || q.Pieces[m.From] != 0 {
				t.Error(textOf(p), m, textOf(q), e)
			}
		}
	}
}

func TestPromoteErrors(t *testing.T) {
	for _, c := range []struct{ from, text string }{
		{usual, "e2e4Q"}, {usual, "e2e3N"}, {usual, "b1c3Q"}, {usual, "a2b3R"}, {"3x4 2k/3/P2/2K w - - 0 1", "a2a3Q"}, {"3x4 2k/P2/3/2K w - - 0 1", "a3a4"}, {"3x4 1nk/P2/3/2K w - - 0 1", "a3b4"},
		{"3x4 2k/R2/3/2K w - - 0 1", "a3a4Q"}, {"3x4 k2/1N1/3/2K w - - 0 1", "b3a1Q"}, {"3x4 2k/3/3/2K w - - 0 1", "c1b1B"}, {corners, "e1g1Q"}, {corners, "e1c1R"}, {corners, "e1f1N"}, {corners, "a1a8Q"},
		{"3x4 2k/3/p2/2K b - - 0 1", "a2a1"}, {"3x4 2k/3/p2/1BK b - - 0 1", "a2b1"}, {"3x4 2k/p2/3/2K b - - 0 1", "a3a2N"}, {"3x4 2k/3/r2/2K b - - 0 1", "a2a1Q"}, {"3x4 2k/P2/3/2K w - - 0 1", "a3b4Q"},
	} {
		checkStep(t, c.from, c.text, "", 0, "", api.ErrCheck)
	}
}

func TestMakeSamples(t *testing.T) {
	for _, c := range []struct {
		from, text, to string
		captured       api.Piece
		at             string
		e              api.Errno
	}{
		{from: usual, text: "e2e4", to: "8x8 rnbqkbnr/pppppppp/8/8/4P3/8/PPPP1PPP/RNBQKBNR b KQkq e3 0 1"},
		{from: usual, text: "e2e3", to: "8x8 rnbqkbnr/pppppppp/8/8/8/4P3/PPPP1PPP/RNBQKBNR b KQkq - 0 1"},
		{from: usual, text: "g1f3", to: "8x8 rnbqkbnr/pppppppp/8/8/8/5N2/PPPPPPPP/RNBQKB1R b KQkq - 1 1"},
		{from: usual, text: "e2e5", e: api.ErrCheck}, {from: usual, text: "e7e5", e: api.ErrNone}, {from: usual, text: "d1d2", e: api.ErrCheck}, {from: usual, text: "e4e5", e: api.ErrNone},
		{from: "8x8 rnbqkbnr/pppppppp/8/8/4P3/8/PPPP1PPP/RNBQKBNR b KQkq e3 0 1", text: "h7h5", to: "8x8 rnbqkbnr/ppppppp1/8/7p/4P3/8/PPPP1PPP/RNBQKBNR w KQkq h6 0 2"},
		{from: "8x8 rnbqkbnr/pppppppp/8/8/4P3/8/PPPP1PPP/RNBQKBNR b KQkq e3 0 1", text: "b8a6", to: "8x8 r1bqkbnr/pppppppp/n7/8/4P3/8/PPPP1PPP/RNBQKBNR w KQkq - 1 2"},
		{from: "8x8 rnbqkbnr/pppppppp/8/8/4P3/8/PPPP1PPP/RNBQKBNR b KQkq e3 0 1", text: "e2e1Q", e: api.ErrNone},
		{from: "8x8 rnbqkbnr/pppppppp/8/8/4P3/8/PPPP1PPP/RNBQKBNR b KQkq e3 0 1", text: "e4e5", e: api.ErrNone},
		{from: "3x6 k2/3/3/Pp1/3/2K w - b4 0 1", text: "a3b4", to: "3x6 k2/3/1P1/3/3/2K b - - 0 1", captured: -1, at: "b3"},
		{from: "3x6 k2/3/3/Pp1/3/2K w - - 0 1", text: "a3b4", e: api.ErrCheck},
		{from: "3x6 k2/3/3/1pP/3/2K w - b4 0 1", text: "c3b4", to: "3x6 k2/3/1P1/3/3/2K b - - 0 1", captured: -1, at: "b3"},
		{from: "3x6 k2/3/1Pp/3/3/K2 b - b3 0 4", text: "c4b3", to: "3x6 k2/3/3/1p1/3/K2 w - - 0 5", captured: 1, at: "b4"},
		{from: "3x6 k2/3/1Pp/3/3/K2 b - - 0 4", text: "c4b3", e: api.ErrCheck},
		{from: "4x6 k3/4/4/Pp1P/4/3K w - b4 0 1", text: "d3c4", e: api.ErrCheck},
		{from: "4x6 k3/4/4/Pp1P/4/3K w - b4 0 1", text: "a3b4", to: "4x6 k3/4/1P2/3P/4/3K b - - 0 1", captured: -1, at: "b3"},
		{from: "4x6 3k/4/4/Pp1K/4/4 w - b4 0 1", text: "a3b4", to: "4x6 3k/4/1P2/3K/4/4 b - - 0 1", captured: -1, at: "b3"},
		{from: "4x6 3k/4/4/KPpr/4/4 w - c4 0 1", text: "b3c4", e: making.ErrKing},
		{from: "3x6 k2/3/3/1pN/3/2K w - b4 0 1", text: "c3b5", to: "3x6 k2/1N1/3/1p1/3/2K b - - 1 1"},
		{from: "3x6 2k/3/3/Qp1/3/2K w - b4 0 1", text: "a3b4", to: "3x6 2k/3/1Q1/1p1/3/2K b - - 1 1"},
		{from: "3x6 2k/3/3/Kp1/3/3 w - b4 0 1", text: "a3b4", to: "3x6 2k/3/1K1/1p1/3/3 b - - 1 1"},
		{from: "3x3 2k/P2/2K w - - 5 7", text: "a2a3R", to: "3x3 R1k/3/2K b - - 0 7"},
		{from: "3x3 2k/P2/2K w - - 5 7", text: "a2a3", e: api.ErrCheck},
		{from: "3x3 1nk/P2/2K w - - 5 7", text: "a2b3Q", to: "3x3 1Qk/3/2K b - - 0 7", captured: -2, at: "b3"},
		{from: "3x3 2k/p2/1QK b - - 5 7", text: "a2b1N", to: "3x3 2k/3/1nK w - - 0 8", captured: 5, at: "b1"},
		{from: "8x8 4k3/8/8/8/8/8/8/R3K2R w KQ - 3 9", text: "e1c1", to: "8x8 4k3/8/8/8/8/8/8/2KR3R b - - 4 9"},
		{from: "8x8 4k3/8/8/8/8/8/8/R3K2R w KQ - 3 9", text: "e1g1", to: "8x8 4k3/8/8/8/8/8/8/R4RK1 b - - 4 9"},
		{from: "8x8 4kr2/8/8/8/8/8/8/R3K2R w KQ - 3 9", text: "e1g1", e: making.ErrKing},
		{from: "8x8 4kr2/8/8/8/8/8/8/R3K2R w KQ - 3 9", text: "e1c1", to: "8x8 4kr2/8/8/8/8/8/8/2KR3R b - - 4 9"},
		{from: "8x8 4kr2/8/8/8/8/8/8/R3K2R w KQ - 3 9", text: "e1f1", e: making.ErrKing},
		{from: "4x4 1k2/1r2/1R2/1K2 w - - 0 1", text: "b2a2", e: making.ErrKing},
		{from: "4x4 1k2/1r2/1R2/1K2 w - - 0 1", text: "b2b3", to: "4x4 1k2/1R2/4/1K2 b - - 0 1", captured: -4, at: "b3"},
		{from: "4x4 1k2/1r2/1R2/1K2 w - - 8 6", text: "b2b3", to: "4x4 1k2/1R2/4/1K2 b - - 0 6", captured: -4, at: "b3"},
		{from: "3x5 2k/3/3/P2/2K w - - 0 1", text: "a2a4", e: api.ErrCheck},
		{from: "3x5 2k/p2/3/3/2K b - - 0 1", text: "a4a2", e: api.ErrCheck},
		{from: "3x6 2k/3/3/3/P2/2K w - - 4 1", text: "a2a4", to: "3x6 2k/3/P2/3/3/2K b - a3 0 1"},
		{from: "3x6 2k/p2/3/3/3/2K b - - 4 1", text: "a5a3", to: "3x6 2k/3/3/p2/3/2K w - a4 0 2"},
		{from: "3x6 2k/3/3/3/3/P1K w - - 4 1", text: "a1a3", e: api.ErrCheck},
		{from: "3x6 2k/3/3/3/3/P1K w - - 4 1", text: "a1a2", to: "3x6 2k/3/3/3/P2/2K b - - 0 1"},
		{from: "3x6 2k/3/3/P2/3/2K w - - 4 1", text: "a3a5", e: api.ErrCheck},
		{from: "3x6 2k/3/n2/3/P2/2K w - - 4 1", text: "a2a4", e: api.ErrCheck},
		{from: "3x6 2k/3/3/n2/P2/2K w - - 4 1", text: "a2a4", e: api.ErrCheck},
		{from: "3x6 2k/3/3/n2/P2/2K w - - 4 1", text: "a2a3", e: api.ErrCheck},
		{from: "3x6 2k/3/n2/3/P2/2K w - - 4 1", text: "a2a3", to: "3x6 2k/3/n2/P2/3/2K b - - 0 1"},
		{from: "3x6 2k/3/3/N2/P2/2K w - - 4 1", text: "a2a3", e: api.ErrCheck},
		{from: "3x6 2k/3/3/1N1/P2/2K w - - 4 1", text: "a2b3", e: api.ErrCheck},
		{from: "3x6 2k/3/3/1n1/P2/K2 w - - 4 1", text: "a2b3", to: "3x6 2k/3/3/1P1/3/K2 b - - 0 1", captured: -2, at: "b3"},
		{from: "3x6 2k/3/3/1n1/P2/K2 w - - 4 1", text: "a2a3", e: making.ErrKing},
		{from: "3x6 2k/3/3/1n1/P2/K2 w - - 4 1", text: "a2a4", e: making.ErrKing},
		{from: "3x3 k2/3/2K w - - 10000 1", text: "c1b1", e: api.ErrFull},
		{from: "3x3 k2/3/2K w - - 9999 1", text: "c1b1", to: "3x3 k2/3/1K1 b - - 10000 1"},
		{from: "3x3 k2/3/2K b - - 0 10000", text: "a3b3", e: api.ErrFull},
		{from: "3x3 k2/3/2K b - - 0 9999", text: "a3b3", to: "3x3 1k1/3/2K w - - 1 10000"},
		{from: "3x3 k2/3/2K w - - 0 10000", text: "c1b1", to: "3x3 k2/3/1K1 b - - 1 10000"},
	} {
		checkStep(t, c.from, c.text, c.to, c.captured, c.at, c.e)
	}
}

// Own pieces are on all squares, one after the other, to which another own piece would go.
func TestOwnOnTo(t *testing.T) {
	for _, p := range []api.Position{known(t, usual), known(t, corners)} {
		for from := range p.Pieces {
			for to := range p.Pieces {
				if from != to && holds(p, from, false) && holds(p, to, false) {
					for _, kind := range promotes {
						checkError(t, p, api.Move{From: from, To: to, Promote: kind}, api.ErrCheck)
					}
				}
			}
		}
	}
	for _, s := range sizes() {
		for piece := api.Piece(1); piece <= 5; piece++ {
			p, ok := withKings(with(s, false, man{s.Files + 1, 5}, man{0, piece}, man{1, piece}, man{2, piece}, man{s.Files + 2, piece}))
			for _, to := range []int{0, 1, 2, s.Files + 2} {
				if ok {
					checkError(t, p, api.Move{From: s.Files + 1, To: to}, api.ErrCheck)
				}
			}
		}
	}
}

// On From there is nothing, or a piece of the other side.
func TestNoOwnPiece(t *testing.T) {
	for _, s := range sizes() {
		for _, p := range samples(s, 4) {
			for from := range p.Pieces {
				for to := range p.Pieces {
					if from != to && (p.Pieces[from] == 0 || p.Pieces[from] < 0 != p.Black) {
						checkError(t, p, api.Move{From: from, To: to, Promote: promotes[(from+to)%5]}, api.ErrNone)
					}
				}
			}
		}
	}
}

// On each board each pawn captures where another one has just gone by, from either side, and only there.
func TestPassant(t *testing.T) {
	count := 0
	for _, s := range sizes() {
		if s.Ranks < 6 {
			continue
		}
		for _, black := range sides {
			for file := range s.Files {
				p := stepped(with(s, black), file)
				p, ok := withKings(p)
				if !ok {
					t.Fatal(p)
				}
				for _, side := range []int{file - 1, file + 1} {
					if side < 0 || side >= s.Files {
						continue
					}
					m := api.Move{From: p.Passant + side - file + s.Files, To: p.Passant}
					if !black {
						m.From -= 2 * s.Files
					}
					at := m.From + file - side
					for _, kind := range promotes[1:] {
						checkError(t, p, api.Move{From: m.From, To: m.To, Promote: kind}, api.ErrCheck)
					}
					checkError(t, changed(p, func(p *api.Position) { p.Passant = -1 }), m, api.ErrCheck)
					q, u, e := checkMake(t, p, m)
					if e == making.ErrKing {
						continue
					}
					count++
					if e != api.OK || u.Captured != -p.Pieces[m.From] || u.At != at || u.Passant != p.Passant || q.Pieces[at] != 0 || q.Pieces[m.To] != p.Pieces[m.From] || q.Pieces[m.From] != 0 || q.Passant != -1 || q.Half != 0 {
						t.Error(textOf(p), m, textOf(q), u, e)
					}
				}
			}
		}
	}
	if count < 300 {
		t.Error("only", count)
	}
}

// Each way of castling is tried with all rights, and with each piece on each empty square.
func TestCastling(t *testing.T) {
	base := known(t, corners)
	counts := map[api.Errno]int{}
	for m, w := range ways {
		p := changed(base, func(p *api.Position) { p.Black = w.king < 0 })
		for castle := range uint8(16) {
			p.Castle = castle
			_, _, e := checkMake(t, p, m)
			if (e == api.OK) != (castle&w.bit != 0) || e != api.OK && e != api.ErrCheck {
				t.Error(m, castle, e)
			}
			other := changed(p, func(p *api.Position) { p.Black = !p.Black })
			checkError(t, other, m, api.ErrNone)
			for _, kind := range promotes[1:] {
				checkError(t, p, api.Move{From: m.From, To: m.To, Promote: kind}, api.ErrCheck)
			}
		}
		p.Castle = 15
		for at := range p.Pieces {
			for piece := api.Piece(-5); piece <= 5; piece++ {
				q := changed(p, func(p *api.Position) { p.Pieces[at] = piece })
				if p.Pieces[at] != 0 || !position.Valid(q) {
					continue
				}
				_, _, e := checkMake(t, q, m)
				counts[e]++
				if piece != 0 && slices.Contains(w.empty, at) && e != api.ErrCheck {
					t.Error(textOf(q), m, e)
				}
			}
		}
	}
	if counts[api.OK] < 500 || counts[making.ErrKing] < 100 || counts[api.ErrCheck] < 50 {
		t.Error(counts)
	}
}

// What attacks the king before or after, or the square of the rook, forbids castling; what attacks the corner or the square beside it does not.
func TestCastlingSamples(t *testing.T) {
	for _, c := range []struct {
		from  string
		short api.Errno
		long  api.Errno
	}{
		{"8x8 r3k2r/8/8/8/8/8/8/R3K2R w KQkq - 3 9", api.OK, api.OK},
		{"8x8 r3k2r/8/8/8/8/8/8/R3K2R w - - 3 9", api.ErrCheck, api.ErrCheck},
		{"8x8 r3k2r/8/8/8/8/8/8/R3K2R w kq - 3 9", api.ErrCheck, api.ErrCheck},
		{"8x8 r3k2r/8/8/8/8/8/8/R3K2R w K - 3 9", api.OK, api.ErrCheck},
		{"8x8 r3k2r/8/8/8/8/8/8/R3K2R w Q - 3 9", api.ErrCheck, api.OK},
		{"8x8 4k3/r7/8/8/8/8/8/R3K2R w KQ - 3 9", api.OK, api.OK},
		{"8x8 4k3/1r6/8/8/8/8/8/R3K2R w KQ - 3 9", api.OK, api.OK},
		{"8x8 4k3/2r5/8/8/8/8/8/R3K2R w KQ - 3 9", api.OK, making.ErrKing},
		{"8x8 4k3/3r4/8/8/8/8/8/R3K2R w KQ - 3 9", api.OK, making.ErrKing},
		{"8x8 4k3/4r3/8/8/8/8/8/R3K2R w KQ - 3 9", making.ErrKing, making.ErrKing},
		{"8x8 4k3/5r2/8/8/8/8/8/R3K2R w KQ - 3 9", making.ErrKing, api.OK},
		{"8x8 4k3/6r1/8/8/8/8/8/R3K2R w KQ - 3 9", making.ErrKing, api.OK},
		{"8x8 4k3/7r/8/8/8/8/8/R3K2R w KQ - 3 9", api.OK, api.OK},
		{"8x8 4k3/8/8/8/8/8/3p4/R3K2R w KQ - 3 9", making.ErrKing, making.ErrKing},
		{"8x8 4k3/8/8/8/8/8/4p3/R3K2R w KQ - 3 9", making.ErrKing, making.ErrKing},
		{"8x8 4k3/8/8/8/8/8/6p1/R3K2R w KQ - 3 9", making.ErrKing, api.OK},
		{"8x8 4k3/8/8/8/8/8/7p/R3K2R w KQ - 3 9", making.ErrKing, api.OK},
		{"8x8 4k3/8/8/8/8/8/1p6/R3K2R w KQ - 3 9", api.OK, making.ErrKing},
		{"8x8 4k3/8/8/8/8/8/p7/R3K2R w KQ - 3 9", api.OK, api.OK},
		{"8x8 4k3/8/8/8/8/4n3/8/R3K2R w KQ - 3 9", making.ErrKing, making.ErrKing},
		{"8x8 4k3/8/8/8/8/2n5/8/R3K2R w KQ - 3 9", api.OK, making.ErrKing},
		{"8x8 4k3/8/8/8/8/n7/8/R3K2R w KQ - 3 9", api.OK, api.OK},
		{"8x8 4k3/8/8/8/8/1n6/8/R3K2R w KQ - 3 9", api.OK, making.ErrKing},
		{"8x8 8/8/8/8/8/8/6k1/R3K2R w KQ - 3 9", making.ErrKing, api.OK},
		{"8x8 8/8/8/8/8/8/2k5/R3K2R w KQ - 3 9", api.OK, making.ErrKing},
		{"8x8 8/8/8/8/8/8/1k6/R3K2R w KQ - 3 9", api.OK, making.ErrKing},
		{"8x8 4k3/4r3/8/8/8/8/4P3/R3K2R w KQ - 3 9", api.OK, api.OK},
		{"8x8 4k3/8/8/8/8/8/8/R3KN1R w KQ - 3 9", api.ErrCheck, api.OK},
		{"8x8 4k3/8/8/8/8/8/8/R3K1nR w KQ - 3 9", api.ErrCheck, api.OK},
		{"8x8 4k3/8/8/8/8/8/8/RN2K2R w KQ - 3 9", api.OK, api.ErrCheck},
		{"8x8 4k3/8/8/8/8/8/8/Rb2K2R w KQ - 3 9", api.OK, api.ErrCheck},
		{"8x8 4k3/8/8/8/8/8/8/R1b1K2R w KQ - 3 9", api.OK, api.ErrCheck},
		{"8x8 4k3/8/8/8/8/8/8/R2QK2R w KQ - 3 9", api.OK, api.ErrCheck},
		{"8x8 4k3/4r3/8/8/8/8/8/R2QKB1R w KQ - 3 9", api.ErrCheck, api.ErrCheck},
	} {
		p := known(t, c.from)
		for m, want := range map[string]api.Errno{"e1g1": c.short, "e1c1": c.long} {
			_, _, e := checkMake(t, p, moving(t, p.Size, m))
			if _, _, got := making.Make(p, moving(t, p.Size, m)); got != want || e != want {
				t.Error(c.from, m, got, "want", want)
			}
			turned := strings.NewReplacer("1", "8").Replace(m)
			if _, _, got := making.Make(mirrored(p), moving(t, p.Size, turned)); got != want {
				t.Error(textOf(mirrored(p)), turned, got, "want", want)
			}
		}
	}
}

// mirrored returns a position with the ranks and the sides exchanged.
func mirrored(p api.Position) api.Position {
	q := clone(p)
	for at := range p.Pieces {
		q.Pieces[at] = -p.Pieces[(p.Size.Ranks-1-at/p.Size.Files)*p.Size.Files+at%p.Size.Files]
	}
	q.Black = !p.Black
	q.Castle = p.Castle%4*4 + p.Castle/4
	if p.Passant >= 0 {
		q.Passant = (p.Size.Ranks-1-p.Passant/p.Size.Files)*p.Size.Files + p.Passant%p.Size.Files
	}
	return q
}

// Kings castle nowhere else, and other pieces do not castle.
func TestNotCastling(t *testing.T) {
	for _, c := range []struct{ from, text string }{
		{"8x8 4k3/8/8/8/8/8/8/R3K2R w - - 0 1", "e1g1"}, {"8x8 4k3/8/8/8/8/8/8/R2K3R w - - 0 1", "d1f1"}, {"8x8 4k3/8/8/8/8/8/R3K2R/8 w - - 0 1", "e2g2"}, {"8x8 r3k2r/8/8/8/8/8/8/4K3 w kq - 0 1", "e1g1"},
		{"8x8 R3K2R/8/8/8/8/8/8/4k3 w - - 0 1", "e8g8"}, {"7x8 r2k2r/7/7/7/7/7/7/R2K2R w - - 0 1", "d1f1"}, {"8x7 4k3/8/8/8/8/8/R3K2R w - - 0 1", "e1g1"}, {"8x7 4k3/8/8/8/8/8/R3K2R w - - 0 1", "e1c1"}, {"7x8 3k3/7/7/7/7/7/7/R3K2 w - - 0 1", "e1c1"},
		{corners, "e1b1"}, {corners, "e1h1"}, {corners, "e1a1"}, {corners, "e1e3"}, {corners, "e1g3"}, {corners, "e1c3"}, {corners, "h1e1"}, {corners, "a1e1"},
	} {
		checkStep(t, c.from, c.text, "", 0, "", api.ErrCheck)
	}
	for _, text := range []string{"8x8 3k4/8/8/8/8/8/K7/4R2R w - - 0 1", "8x8 3k4/8/8/8/8/8/K7/4Q2R w - - 0 1"} {
		p := known(t, text)
		q, _, e := making.Make(p, moving(t, p.Size, "e1g1"))
		if p.Pieces[4] != q.Pieces[6] || q.Pieces[7] != 4 || q.Pieces[5] != 0 || e != api.OK {
			t.Error(text, textOf(q), e)
		}
	}
}

// On small boards some steps of a king have the numbers of castling.
func TestNumbersOfCastling(t *testing.T) {
	checkStep(t, "3x5 2k/3/3/RK1/3 w - - 0 1", "b2c1", "3x5 2k/3/3/R2/2K b - - 1 1", 0, "", api.OK)
	checkStep(t, "3x5 2k/3/3/3/RK1 w - - 0 1", "b1c2", "3x5 2k/3/3/2K/R2 b - - 1 1", 0, "", api.OK)
	checkStep(t, "3x5 k2/3/3/1KR/3 w - - 0 1", "b2a3", "3x5 k2/3/K2/2R/3 b - - 1 1", 0, "", api.OK)
	checkStep(t, "3x5 2k/3/1R1/1K1/3 w - - 0 1", "b2a3", "3x5 2k/3/KR1/3/3 b - - 1 1", 0, "", api.OK)
	checkStep(t, "3x5 2k/3/3/rK1/3 w - - 0 1", "b2c1", "3x5 2k/3/3/r2/2K b - - 1 1", 0, "", api.OK)
	checkStep(t, "3x5 2k/3/3/rK1/3 w - - 0 1", "b2a2", "3x5 2k/3/3/K2/3 b - - 0 1", -4, "a2", api.OK)
	checkStep(t, "3x5 2K/3/3/Rk1/3 b - - 0 1", "b2c1", "3x5 2K/3/3/R2/2k w - - 1 2", 0, "", api.OK)
}

// Each move from or to the square of a king or of a rook takes its rights away, and no other move does.
func TestRights(t *testing.T) {
	for _, c := range []struct {
		from, text string
		left       uint8
	}{
		{corners, "e1e2", 12}, {corners, "e1d1", 12}, {corners, "e1g1", 12}, {corners, "e1c1", 12},
		{corners, "h1g1", 14}, {corners, "a1b1", 13}, {corners, "h1h7", 14}, {corners, "a1a7", 13}, {corners, "h1h8", 10}, {corners, "a1a8", 5},
		{"8x8 r3k2r/8/8/8/8/8/8/R3K2R b KQkq - 3 9", "e8e7", 3}, {"8x8 r3k2r/8/8/8/8/8/8/R3K2R b KQkq - 3 9", "e8g8", 3}, {"8x8 r3k2r/8/8/8/8/8/8/R3K2R b KQkq - 3 9", "e8c8", 3},
		{"8x8 r3k2r/8/8/8/8/8/8/R3K2R b KQkq - 3 9", "h8g8", 11}, {"8x8 r3k2r/8/8/8/8/8/8/R3K2R b KQkq - 3 9", "a8b8", 7}, {"8x8 r3k2r/8/8/8/8/8/8/R3K2R b KQkq - 3 9", "h8h1", 10}, {"8x8 r3k2r/8/8/8/8/8/8/R3K2R b KQkq - 3 9", "a8a1", 5},
		{"8x8 r3k2r/8/6N1/8/8/8/8/R3K2R w KQkq - 3 9", "g6h8", 11}, {"8x8 r3k2r/8/1N6/8/8/8/8/R3K2R w KQkq - 3 9", "b6a8", 7}, {"8x8 r3k2r/8/8/8/8/6n1/8/R3K2R b KQkq - 3 9", "g3h1", 14}, {"8x8 r3k2r/8/8/8/8/1n6/8/R3K2R b KQkq - 3 9", "b3a1", 13},
		{"8x8 r3k2r/6P1/8/8/8/8/8/R3K2R w KQkq - 3 9", "g7h8Q", 11}, {"8x8 r3k2r/1P6/8/8/8/8/8/R3K2R w KQkq - 3 9", "b7a8N", 7}, {"8x8 r3k2r/8/8/8/8/8/6p1/R3K2R b KQkq - 3 9", "g2h1R", 14}, {"8x8 r3k2r/8/8/8/8/8/1p6/R3K2R b KQkq - 3 9", "b2a1B", 13},
		{"8x8 r3k2r/8/8/8/8/8/8/R3K2R w kq - 3 9", "e1e2", 12}, {"8x8 r3k2r/8/8/8/8/8/8/R3K2R w Kk - 3 9", "a1a8", 5}, {"8x8 r3k2r/8/8/8/8/8/8/R3K2R w Qq - 3 9", "a1a8", 0}, {"8x8 r3k2r/8/8/8/8/8/8/R3K2R w K - 3 9", "h1h8", 0},
		{"8x8 r3k2r/8/8/8/8/8/3P4/R3K2R w KQkq - 3 9", "d2d4", 15}, {"8x8 r3k2r/8/8/8/8/8/8/R1B1K2R w KQkq - 3 9", "c1d2", 15}, {"8x8 r3k2r/8/8/8/8/8/8/RN2K2R w KQkq - 3 9", "b1c3", 15}, {usual, "b1c3", 15}, {usual, "e2e4", 15},
	} {
		p := known(t, c.from)
		m := moving(t, p.Size, c.text)
		q, u, e := checkMake(t, p, m)
		if got, _, f := making.Make(p, m); got.Castle != c.left || q.Castle != c.left || u.Castle != p.Castle || e != api.OK || f != api.OK {
			t.Error(c, got.Castle, q.Castle, u, e, f)
		}
	}
	// With each set of rights, each move that can be made.
	for _, text := range []string{corners, "8x8 r3k2r/1P4P1/1N4N1/8/8/1n4n1/1p4p1/R3K2R w KQkq - 0 1", usual} {
		for castle := range uint8(16) {
			for _, black := range sides {
				p := changed(known(t, text), func(p *api.Position) { p.Castle, p.Black = castle, black })
				for _, m := range possible(p) {
					checkMake(t, p, m)
				}
			}
		}
	}
}

func TestCounters(t *testing.T) {
	for _, c := range []struct {
		from, text    string
		half, full, e int
	}{
		{from: "8x8 r3k2r/p7/8/3n4/4P3/8/P7/R3K2R w KQkq - 41 50", text: "e1e2", half: 42, full: 50},
		{from: "8x8 r3k2r/p7/8/3n4/4P3/8/P7/R3K2R w KQkq - 41 50", text: "e1g1", half: 42, full: 50},
		{from: "8x8 r3k2r/p7/8/3n4/4P3/8/P7/R3K2R w KQkq - 41 50", text: "h1h8", half: 0, full: 50},
		{from: "8x8 r3k2r/p7/8/3n4/4P3/8/P7/R3K2R w KQkq - 41 50", text: "h1h7", half: 42, full: 50},
		{from: "8x8 r3k2r/p7/8/3n4/4P3/8/P7/R3K2R w KQkq - 41 50", text: "a2a3", half: 0, full: 50},
		{from: "8x8 r3k2r/p7/8/3n4/4P3/8/P7/R3K2R w KQkq - 41 50", text: "a2a4", half: 0, full: 50},
		{from: "8x8 r3k2r/p7/8/3n4/4P3/8/P7/R3K2R w KQkq - 41 50", text: "e4d5", half: 0, full: 50},
		{from: "8x8 r3k2r/p7/8/3n4/4P3/8/P7/R3K2R b KQkq - 41 50", text: "e8c8", half: 42, full: 51},
		{from: "8x8 r3k2r/p7/8/3n4/4P3/8/P7/R3K2R b KQkq - 41 50", text: "d5c3", half: 42, full: 51},
		{from: "8x8 r3k2r/p7/8/3n4/4P3/8/P7/R3K2R b KQkq - 41 50", text: "a7a5", half: 0, full: 51},
		{from: "8x8 r3k2r/p7/8/3n4/4P3/8/P7/R3K2R b KQkq - 41 50", text: "h8h1", half: 0, full: 51},
		{from: "8x8 r3k2r/p7/8/3n4/4P3/8/P7/R3K2R b KQkq - 10000 9999", text: "h8h1", half: 0, full: 10000},
		{from: "8x8 r3k2r/p7/8/3n4/4P3/8/P7/R3K2R b KQkq - 10000 9999", text: "a7a6", half: 0, full: 10000},
		{from: "8x8 r3k2r/p7/8/3n4/4P3/8/P7/R3K2R b KQkq - 9999 9999", text: "e8g8", half: 10000, full: 10000},
		{from: "8x8 r3k2r/p7/8/3n4/4P3/8/P7/R3K2R w KQkq - 9999 10000", text: "e1c1", half: 10000, full: 10000},
		{from: "8x8 r3k2r/p7/8/3n4/4P3/8/P7/R3K2R w KQkq - 10000 10000", text: "a1d1", e: 7},
		{from: "8x8 r3k2r/p7/8/3n4/4P3/8/P7/R3K2R w KQkq - 10000 10000", text: "e1c1", e: 7},
		{from: "8x8 r3k2r/p7/8/3n4/4P3/8/P7/R3K2R w KQkq - 10000 10000", text: "e4e5", half: 0, full: 10000},
		{from: "8x8 r3k2r/p7/8/3n4/4P3/8/P7/R3K2R b KQkq - 0 10000", text: "a7a6", e: 7},
		{from: "8x8 r3k2r/p7/8/3n4/4P3/8/P7/R3K2R b KQkq - 0 10000", text: "e8g8", e: 7},
		{from: "8x8 r3k2r/p7/8/3n4/4P3/8/P7/R3K2R b KQkq - 0 10000", text: "h8h1", e: 7},
		{from: "8x8 r3k2r/p7/8/3n4/4P3/8/P7/R3K2R b KQkq - 10000 9999", text: "h8h2", e: 7},
		{from: "8x8 4k3/8/8/3pP3/8/8/8/4K3 w - d6 0 10000", text: "e5d6", half: 0, full: 10000},
		{from: "8x8 4k3/1P6/8/8/8/8/8/4K3 w - - 10000 10000", text: "b7b8N", half: 0, full: 10000},
	} {
		p := known(t, c.from)
		q, _, e := making.Make(p, moving(t, p.Size, c.text))
		if q.Half != c.half || q.Full != c.full || int(e) != c.e {
			t.Error(c, q.Half, q.Full, e)
		}
	}
}

// The king could be captured: it goes to an attacked square, stays in check, or is uncovered.
func TestErrKing(t *testing.T) {
	for _, c := range []struct {
		from, text string
		e          api.Errno
	}{
		{"5x5 4k/4r/5/4R/4K w - - 0 1", "e2d2", making.ErrKing}, {"5x5 4k/4r/5/4R/4K w - - 0 1", "e2e3", api.OK}, {"5x5 4k/4r/5/4R/4K w - - 0 1", "e2e4", api.OK}, {"5x5 4k/4r/5/4R/4K w - - 0 1", "e1d1", api.OK},
		{"5x5 4k/4r/5/5/4K w - - 0 1", "e1e2", making.ErrKing}, {"5x5 4k/4r/5/5/4K w - - 0 1", "e1d1", api.OK}, {"5x5 4k/4r/5/N4/4K w - - 0 1", "a2b4", making.ErrKing}, {"5x5 4k/4r/5/1N3/4K w - - 0 1", "b2d3", making.ErrKing}, {"5x5 4k/4r/5/2N2/4K w - - 0 1", "c2e3", api.OK},
		{"5x5 4k/4r/3B1/5/4K w - - 0 1", "d3e4", api.OK}, {"5x5 4k/4r/5/3r1/4K w - - 0 1", "e1d2", api.OK}, {"5x5 4k/4r/5/3r1/2b1K w - - 0 1", "e1d2", making.ErrKing}, {"5x5 4k/3r1/5/3r1/4K w - - 0 1", "e1d2", making.ErrKing},
		{"5x5 5/5/2k2/5/2K2 w - - 0 1", "c1c2", making.ErrKing}, {"5x5 5/5/2k2/5/2K2 w - - 0 1", "c1b2", making.ErrKing}, {"5x5 5/5/2k2/5/2K2 w - - 0 1", "c1b1", api.OK}, {"5x5 5/5/2K2/5/2k2 b - - 0 1", "c1d2", making.ErrKing},
		{"5x5 k4/5/5/1p3/3K1 w - - 0 1", "d1c1", making.ErrKing}, {"5x5 k4/5/5/1p3/3K1 w - - 0 1", "d1c2", api.OK}, {"5x5 k4/5/1P3/5/3K1 b - - 0 1", "a5a4", making.ErrKing}, {"5x5 k4/1P3/5/5/3K1 b - - 0 1", "a5b5", api.OK}, {"5x5 1k3/1P3/5/5/3K1 b - - 0 1", "b5a5", making.ErrKing},
		{"8x8 4k3/8/8/K2pP2r/8/8/8/8 w - d6 0 1", "e5d6", making.ErrKing}, {"8x8 4k3/8/8/1K1pP1b1/8/8/8/8 w - d6 0 1", "e5d6", api.OK}, {"8x8 4k3/8/8/3pP3/2K5/8/8/8 w - d6 0 1", "e5d6", api.OK}, {"8x8 4k3/8/8/3pP3/2K5/8/8/8 w - - 0 1", "e5e6", making.ErrKing},
		{"8x8 6k1/5b2/8/3pP3/2K5/8/8/8 w - d6 0 1", "e5d6", making.ErrKing}, {"8x8 8/8/8/8/R2Pp2k/8/8/K7 b - d3 0 1", "e4d3", making.ErrKing}, {"8x8 8/8/8/8/RN1Pp2k/8/8/K7 b - d3 0 1", "e4d3", api.OK},
	} {
		p := known(t, c.from)
		m := moving(t, p.Size, c.text)
		checkMake(t, p, m)
		if _, _, e := making.Make(p, m); e != c.e {
			t.Error(c, e)
		}
		back := strings.Map(func(r rune) rune {
			if '1' <= r && r <= '8' {
				return '1' + '0' + rune(p.Size.Ranks) - r
			}
			return r
		}, c.text)
		if _, _, e := making.Make(mirrored(p), moving(t, p.Size, back)); e != c.e {
			t.Error(c, "mirrored", e)
		}
	}
}

// The errors come in the order of the chapter: what is wrong besides a later one does not matter.
func TestErrorOrder(t *testing.T) {
	for _, c := range []struct {
		from, text string
		e          api.Errno
	}{
		{"3x3 k2/3/2K b - - 0 10000", "a3b2", making.ErrKing}, {"3x3 k2/3/2K w - - 10000 1", "c1b2", making.ErrKing}, {"3x3 k2/3/2K w - - 10000 1", "c1a1", api.ErrCheck}, {"3x3 k2/3/2K w - - 10000 1", "a3a2", api.ErrNone}, {"3x3 k2/3/2K w - - 10000 1", "b3b2", api.ErrNone},
		{"3x3 k2/3/2K b - - 10000 10000", "a3a1", api.ErrCheck}, {"3x3 k2/3/2K b - - 10000 10000", "c1b1", api.ErrNone}, {"3x3 k2/3/2K b - - 10000 10000", "c1b1Q", api.ErrNone}, {"3x3 k2/3/2K b - - 10000 10000", "a3a2Q", api.ErrCheck}, {"3x3 k2/3/2K b - - 10000 10000", "a3a2", api.ErrFull},
		{"8x8 4kr2/8/8/8/8/8/8/R3KN1R w KQ - 10000 9", "e1g1", api.ErrCheck}, {"8x8 4kr2/8/8/8/8/8/8/R3K2R w KQ - 10000 9", "e1g1", making.ErrKing}, {"8x8 4kr2/8/8/8/8/8/8/R3K2R w KQ - 10000 9", "e1c1", api.ErrFull}, {"8x8 4kr2/8/8/8/8/8/8/R3K2R w KQ - 10000 9", "e1c1Q", api.ErrCheck},
	} {
		checkStep(t, c.from, c.text, "", 0, "", c.e)
	}
	p := known(t, "3x3 k2/3/2K b - - 10000 10000")
	for _, m := range []api.Move{{}, {From: 2, To: 9}, {From: 6, To: 6}, {From: 6, To: 9}, {From: -1, To: 3}, {From: 9, To: 3}, {From: 6, To: 3, Promote: 1}, {From: 6, To: 3, Promote: 6}, {From: 6, To: 3, Promote: -5}} {
		checkError(t, p, m, api.ErrArg)
	}
	for _, change := range changes() {
		q := changed(p, change)
		for _, m := range []api.Move{{}, {From: 6, To: 3}, {From: 2, To: 1}, {From: 6, To: 0}, {From: 6, To: 4}, {From: 100, To: 200}} {
			checkError(t, q, m, api.ErrArg)
		}
	}
}

// changes has changes after which no position is valid.
func changes() []func(*api.Position) {
	return []func(*api.Position){
		func(p *api.Position) { p.Half = limit + 1 },
		func(p *api.Position) { p.Half = -1 },
		func(p *api.Position) { p.Full = limit + 1 },
		func(p *api.Position) { p.Full = 0 },
		func(p *api.Position) { p.Castle = 16 },
		func(p *api.Position) { p.Castle |= 32 },
		func(p *api.Position) { p.Passant = 1 },
		func(p *api.Position) { p.Passant = -2 },
		func(p *api.Position) { p.Passant = 64 },
		func(p *api.Position) { p.Size.Files = 2 },
		func(p *api.Position) { p.Size.Ranks = 9 },
		func(p *api.Position) { p.Size = api.Size{Files: p.Size.Ranks + 1, Ranks: p.Size.Files} },
		func(p *api.Position) { p.Pieces = nil },
		func(p *api.Position) { p.Pieces = p.Pieces[1:] },
		func(p *api.Position) { p.Pieces = append(p.Pieces, 0) },
		func(p *api.Position) { p.Pieces[slices.Index(p.Pieces, 6)] = 0 },
		func(p *api.Position) { p.Pieces[slices.Index(p.Pieces, -6)] = 5 },
		func(p *api.Position) { p.Pieces[slices.Index(p.Pieces, 0)] = 7 },
		func(p *api.Position) { p.Pieces[slices.Index(p.Pieces, 0)] = -6 },
		func(p *api.Position) { p.Pieces[slices.Index(p.Pieces, 0)] = -128 },
	}
}

// count returns the number of lines of some moves.
func count(t *testing.T, p api.Position, depth int) int {
	t.Helper()
	if depth == 0 {
		return 1
	}
	n := 0
	for _, m := range possible(p) {
		q, u, e := making.Make(p, m)
		if e == making.ErrKing {
			continue
		}
		if e != api.OK {
			t.Fatal(textOf(p), m, e)
		}
		if back, e := making.Unmake(q, u); depth < 3 && (!same(back, p) || e != api.OK) {
			t.Fatal(textOf(p), m, textOf(q), textOf(back), e)
		}
		n += count(t, q, depth-1)
	}
	return n
}

// The numbers of lines that are known of well-known positions.
func TestCounts(t *testing.T) {
	for _, c := range []struct {
		text  string
		depth int
		want  int
	}{
		{usual, 1, 20}, {usual, 2, 400}, {usual, 3, 8902},
		{"8x8 r3k2r/p1ppqpb1/bn2pnp1/3PN3/1p2P3/2N2Q1p/PPPBBPPP/R3K2R w KQkq - 0 1", 1, 48}, {"8x8 r3k2r/p1ppqpb1/bn2pnp1/3PN3/1p2P3/2N2Q1p/PPPBBPPP/R3K2R w KQkq - 0 1", 2, 2039}, {"8x8 r3k2r/p1ppqpb1/bn2pnp1/3PN3/1p2P3/2N2Q1p/PPPBBPPP/R3K2R w KQkq - 0 1", 3, 97862},
		{"8x8 8/2p5/3p4/KP5r/1R3p1k/8/4P1P1/8 w - - 0 1", 3, 2812}, {"8x8 8/2p5/3p4/KP5r/1R3p1k/8/4P1P1/8 w - - 0 1", 4, 43238},
		{"8x8 r3k2r/Pppp1ppp/1b3nbN/nP6/BBP1P3/q4N2/Pp1P2PP/R2Q1RK1 w kq - 0 1", 3, 9467},
		{"8x8 rnbq1k1r/pp1Pbppp/2p5/8/2B5/8/PPP1NnPP/RNBQK2R w KQ - 1 8", 3, 62379},
		{"3x3 k2/3/2K w - - 0 1", 1, 2}, {"3x3 k2/3/2K w - - 0 1", 2, 2}, {"3x3 k2/3/2K w - - 0 1", 3, 4},
		{"4x4 1k2/1r2/1R2/1K2 w - - 0 1", 1, 5},
	} {
		p := known(t, c.text)
		if n := count(t, p, c.depth); n != c.want {
			t.Error(c.text, c.depth, n, "want", c.want)
		}
		if n := count(t, mirrored(p), c.depth); n != c.want {
			t.Error("mirrored", c.text, c.depth, n, "want", c.want)
		}
	}
}

// P8.2

func TestUnmake(t *testing.T) {
	for _, c := range steps(40) {
		if e := checkUnmake(t, c.q, c.u); e != api.OK {
			t.Fatal(textOf(c.p), c.u, e)
		}
	}
}

// alterations returns a record with each of its parts alone changed to something else.
func alterations(s api.Size, u api.Undo) []api.Undo {
	var l []api.Undo
	add := func(change func(*api.Undo)) {
		v := u
		change(&v)
		if v != u {
			l = append(l, v)
		}
	}
	for at := -2; at <= s.Files*s.Ranks+1; at++ {
		add(func(v *api.Undo) { v.Move.From = at })
		add(func(v *api.Undo) { v.Move.To = at })
		add(func(v *api.Undo) { v.At = at })
		add(func(v *api.Undo) { v.Passant = at })
	}
	for piece := api.Piece(-8); piece <= 8; piece++ {
		add(func(v *api.Undo) { v.Move.Promote = piece })
		add(func(v *api.Undo) { v.Captured = piece })
	}
	for castle := range uint8(17) {
		add(func(v *api.Undo) { v.Castle = castle })
	}
	for _, n := range []int{-1, 0, 1, u.Half - 1, u.Half + 1, u.Full - 1, u.Full + 1, limit - 1, limit, limit + 1} {
		add(func(v *api.Undo) { v.Half = n })
		add(func(v *api.Undo) { v.Full = n })
	}
	return l
}

// Each part of the records of some moves is changed alone.
func TestUnmakeAltered(t *testing.T) {
	counts := map[api.Errno]int{}
	d := dice(8)
	for i, c := range steps(2) {
		special := c.u.Captured != 0 && c.u.At != c.u.Move.To || c.p.Castle != 0 && magnitude(c.u.Move.To-c.u.Move.From) == 2
		if !special && i%5 != 0 {
			continue
		}
		for _, v := range alterations(c.p.Size, c.u) {
			counts[checkUnmake(t, c.q, v)]++
		}
		for range 10 {
			v := alterations(c.p.Size, c.u)
			w := alterations(c.p.Size, v[d.roll(len(v))])
			counts[checkUnmake(t, c.q, w[d.roll(len(w))])]++
		}
	}
	if counts[api.OK] < 500 || counts[api.ErrArg] < 500 || counts[api.ErrCheck] < 5000 {
		t.Error(counts)
	}
}

// A record fits its position alone: each part of the position is changed alone.
func TestUnmakeOtherPosition(t *testing.T) {
	count := 0
	for i, c := range steps(2) {
		if i%5 != 0 {
			continue
		}
		for at := range c.q.Pieces {
			piece := api.Piece((at+i)%13 - 6)
			checkUnmake(t, changed(c.q, func(q *api.Position) { q.Pieces[at] = piece }), c.u)
		}
		for _, change := range []func(*api.Position){
			func(q *api.Position) { q.Black = !q.Black },
			func(q *api.Position) { q.Castle ^= 1 },
			func(q *api.Position) { q.Castle &= 3 },
			func(q *api.Position) { q.Castle = 0 },
			func(q *api.Position) { q.Passant = -1 },
			func(q *api.Position) { q.Half = min(q.Half+1, limit) },
			func(q *api.Position) { q.Half = 0 },
			func(q *api.Position) { q.Full = min(q.Full+1, limit) },
			func(q *api.Position) { q.Full = max(q.Full-1, 1) },
		} {
			q := changed(c.q, change)
			if e := checkUnmake(t, q, c.u); same(q, c.q) != (e == api.OK) {
				t.Fatal(textOf(c.p), c.u, textOf(q), e)
			}
			count++
		}
	}
	if count < 1000 {
		t.Error("only", count)
	}
}

func TestUnmakeSamples(t *testing.T) {
	for _, c := range []struct {
		q    string
		u    api.Undo
		want string
		e    api.Errno
	}{
		{q: "3x3 k2/3/2K b - - 1 1", u: api.Undo{Move: api.Move{From: 1, To: 2}, At: -1, Passant: -1, Full: 1}, want: "3x3 k2/3/1K1 w - - 0 1"},
		{q: "3x3 k2/3/2K b - - 1 1", u: api.Undo{Move: api.Move{From: 5, To: 2}, At: -1, Passant: -1, Full: 1}, want: "3x3 k2/2K/3 w - - 0 1"},
		{q: "3x3 k2/3/2K b - - 1 1", u: api.Undo{Move: api.Move{From: 4, To: 2}, At: -1, Passant: -1, Full: 1}, e: api.ErrCheck},
		{q: "3x3 k2/3/2K b - - 1 1", u: api.Undo{Move: api.Move{From: 8, To: 2}, At: -1, Passant: -1, Full: 1}, e: api.ErrCheck},
		{q: "3x3 k2/3/2K b - - 1 1", u: api.Undo{Move: api.Move{From: 2, To: 1}, At: -1, Passant: -1, Full: 1}, e: api.ErrCheck},
		{q: "3x3 k2/3/2K b - - 1 1", u: api.Undo{Move: api.Move{From: 3, To: 6}, At: -1, Passant: -1, Full: 1}, e: api.ErrCheck},
		{q: "3x3 k2/3/2K b - - 1 1", u: api.Undo{Move: api.Move{From: 6, To: 2}, At: -1, Passant: -1, Full: 1}, e: api.ErrCheck},
		{q: "3x3 k2/3/2K b - - 1 1", u: api.Undo{Move: api.Move{From: 1, To: 2}, Captured: -2, At: 2, Passant: -1, Full: 1}, e: api.ErrCheck},
		{q: "3x3 k2/3/2K b - - 0 1", u: api.Undo{Move: api.Move{From: 1, To: 2}, Captured: -2, At: 2, Passant: -1, Full: 1}, want: "3x3 k2/3/1Kn w - - 0 1"},
		{q: "3x3 k2/3/2K b - - 0 1", u: api.Undo{Move: api.Move{From: 1, To: 2}, Captured: -5, At: 2, Passant: -1, Half: 77, Full: 1}, want: "3x3 k2/3/1Kq w - - 77 1"},
		{q: "3x3 k2/3/2K b - - 0 1", u: api.Undo{Move: api.Move{From: 1, To: 2}, Captured: -5, At: 2, Passant: -1, Half: 10001, Full: 1}, e: api.ErrCheck},
		{q: "3x3 k2/3/2K b - - 0 1", u: api.Undo{Move: api.Move{From: 1, To: 2}, Captured: -1, At: 2, Passant: -1, Full: 1}, e: api.ErrCheck},
		{q: "3x3 k2/3/2K b - - 0 1", u: api.Undo{Move: api.Move{From: 1, To: 2}, Captured: -6, At: 2, Passant: -1, Full: 1}, e: api.ErrCheck},
		{q: "3x3 k2/3/2K b - - 0 1", u: api.Undo{Move: api.Move{From: 1, To: 2}, Captured: 2, At: 2, Passant: -1, Full: 1}, e: api.ErrCheck},
		{q: "3x3 k2/3/2K b - - 0 1", u: api.Undo{Move: api.Move{From: 1, To: 2}, Captured: -7, At: 2, Passant: -1, Full: 1}, e: api.ErrCheck},
		{q: "3x3 k2/3/2K b - - 0 1", u: api.Undo{Move: api.Move{From: 1, To: 2}, Captured: -2, At: 0, Passant: -1, Full: 1}, e: api.ErrCheck},
		{q: "3x3 k2/3/2K b - - 0 1", u: api.Undo{Move: api.Move{From: 1, To: 2}, Captured: -2, At: -1, Passant: -1, Full: 1}, e: api.ErrCheck},
		{q: "3x3 k2/3/2K b - - 0 1", u: api.Undo{Move: api.Move{From: 1, To: 2}, At: -1, Passant: -1, Full: 1}, e: api.ErrCheck},
		{q: "3x3 k2/3/2K w - - 1 2", u: api.Undo{Move: api.Move{From: 3, To: 6}, At: -1, Passant: -1, Full: 1}, want: "3x3 3/k2/2K b - - 0 1"},
		{q: "3x3 k2/3/2K w - - 1 1", u: api.Undo{Move: api.Move{From: 3, To: 6}, At: -1, Passant: -1, Full: 0}, e: api.ErrCheck},
		{q: "3x3 R1k/3/2K b - - 0 7", u: api.Undo{Move: api.Move{From: 3, To: 6, Promote: 4}, At: -1, Passant: -1, Half: 5, Full: 7}, want: "3x3 2k/P2/2K w - - 5 7"},
		{q: "3x3 R1k/3/2K b - - 0 7", u: api.Undo{Move: api.Move{From: 3, To: 6, Promote: 5}, At: -1, Passant: -1, Half: 5, Full: 7}, e: api.ErrCheck},
		{q: "3x3 R1k/3/2K b - - 1 7", u: api.Undo{Move: api.Move{From: 3, To: 6}, At: -1, Passant: -1, Full: 7}, want: "3x3 2k/R2/2K w - - 0 7"},
		{q: "3x6 k2/3/1P1/3/3/2K b - - 0 1", u: api.Undo{Move: api.Move{From: 6, To: 10}, Captured: -1, At: 7, Passant: 10, Full: 1}, want: "3x6 k2/3/3/Pp1/3/2K w - b4 0 1"},
		{q: "3x6 k2/3/1P1/3/3/2K b - - 0 1", u: api.Undo{Move: api.Move{From: 8, To: 10}, Captured: -1, At: 7, Passant: 10, Full: 1}, want: "3x6 k2/3/3/1pP/3/2K w - b4 0 1"},
		{q: "3x6 k2/3/1P1/3/3/2K b - - 0 1", u: api.Undo{Move: api.Move{From: 6, To: 10}, Captured: -1, At: 7, Passant: -1, Full: 1}, e: api.ErrCheck},
		{q: "3x6 k2/3/1P1/3/3/2K b - - 0 1", u: api.Undo{Move: api.Move{From: 6, To: 10}, Captured: -1, At: 7, Passant: 10, Half: 1, Full: 1}, e: api.ErrCheck},
		{q: "3x6 k2/3/1P1/3/3/2K b - - 0 1", u: api.Undo{Move: api.Move{From: 7, To: 10}, At: -1, Passant: -1, Half: 1, Full: 1}, want: "3x6 k2/3/3/1P1/3/2K w - - 1 1"},
		{q: "8x8 4k3/8/8/8/8/8/8/2KR3R b - - 4 9", u: api.Undo{Move: api.Move{From: 4, To: 2}, At: -1, Castle: 2, Passant: -1, Half: 3, Full: 9}, want: "8x8 4k3/8/8/8/8/8/8/R3K2R w Q - 3 9"},
		{q: "8x8 4k3/8/8/8/8/8/8/2KR3R b - - 4 9", u: api.Undo{Move: api.Move{From: 4, To: 2}, At: -1, Castle: 3, Passant: -1, Half: 3, Full: 9}, want: "8x8 4k3/8/8/8/8/8/8/R3K2R w KQ - 3 9"},
		{q: "8x8 4k3/8/8/8/8/8/8/2KR3R b - - 4 9", u: api.Undo{Move: api.Move{From: 4, To: 2}, At: -1, Castle: 1, Passant: -1, Half: 3, Full: 9}, e: api.ErrCheck},
		{q: "8x8 4k3/8/8/8/8/8/8/2KR3R b - - 4 9", u: api.Undo{Move: api.Move{From: 4, To: 2}, At: -1, Castle: 0, Passant: -1, Half: 3, Full: 9}, e: api.ErrCheck},
		{q: "8x8 4k3/8/8/8/8/8/8/2KR3R b - - 4 9", u: api.Undo{Move: api.Move{From: 4, To: 2}, At: -1, Castle: 255, Passant: -1, Half: 3, Full: 9}, e: api.ErrCheck},
		{q: "8x8 4k3/8/8/8/8/8/8/2KB3R b - - 4 9", u: api.Undo{Move: api.Move{From: 4, To: 2}, At: -1, Castle: 2, Passant: -1, Half: 3, Full: 9}, e: api.ErrCheck},
		{q: "8x8 5rk1/8/8/8/8/8/8/4K3 w - - 1 2", u: api.Undo{Move: api.Move{From: 60, To: 62}, At: -1, Castle: 4, Passant: -1, Full: 1}, want: "8x8 4k2r/8/8/8/8/8/8/4K3 b k - 0 1"},
		{q: "8x8 2kr4/8/8/8/8/8/8/4K3 w - - 1 2", u: api.Undo{Move: api.Move{From: 60, To: 58}, At: -1, Castle: 8, Passant: -1, Full: 1}, want: "8x8 r3k3/8/8/8/8/8/8/4K3 b q - 0 1"},
		{q: "8x8 4k3/8/8/8/8/8/8/5RK1 b - - 1 1", u: api.Undo{Move: api.Move{From: 4, To: 6}, At: -1, Castle: 1, Passant: -1, Full: 1}, want: "8x8 4k3/8/8/8/8/8/8/4K2R w K - 0 1"},
		{q: "8x8 4k2R/8/8/8/8/8/8/4K3 b - - 0 1", u: api.Undo{Move: api.Move{From: 7, To: 63}, Captured: -4, At: 63, Castle: 5, Passant: -1, Full: 1}, want: "8x8 4k2r/8/8/8/8/8/8/4K2R w Kk - 0 1"},
	} {
		q := known(t, c.q)
		if e := checkUnmake(t, q, c.u); e != c.e {
			t.Error(c, e)
		}
		if p, e := making.Unmake(q, c.u); e != c.e || textOf(p) != c.want {
			t.Error(c, textOf(p), e)
		}
	}
}

// All records of a small set are tried, for all positions with one more piece than two kings on the smallest board: those from which Make leads to a position are taken back, and no others.
func TestUnmakeAll(t *testing.T) {
	s := api.Size{Files: 3, Ranks: 3}
	count := 0
	for seed := range 120 {
		d := dice(seed)
		p := with(s, seed%2 == 0, man{d.roll(9), api.Piece(d.roll(11) - 5)}, man{d.roll(9), 6}, man{d.roll(9), -6})
		p.Half = d.roll(2)
		if !position.Valid(p) {
			continue
		}
		for from := range 9 {
			for to := range 9 {
				for _, kind := range []api.Piece{0, 5} {
					for captured := api.Piece(-6); captured <= 6; captured++ {
						for _, at := range []int{-1, to, from, (to + 1) % 9} {
							u := api.Undo{Move: api.Move{From: from, To: to, Promote: kind}, Captured: captured, At: at, Passant: -1, Full: 1}
							if checkUnmake(t, p, u) == api.OK {
								count++
							}
						}
					}
				}
			}
		}
	}
	if count < 50 {
		t.Error("only", count)
	}
}

func TestUnmakeErrArg(t *testing.T) {
	p, l := known(t, usual), line(t, api.Size{Files: 8, Ranks: 8}, "e2e4")
	q, u, _ := making.Make(p, l[0])
	for _, change := range changes() {
		checkBack(t, changed(q, change), u, api.ErrArg)
	}
	for _, m := range []api.Move{{}, {From: 12, To: 12}, {From: 64, To: 28}, {From: 12, To: 64}, {From: -1, To: 28}, {From: 12, To: -1}, {From: 12, To: 28, Promote: 1}, {From: 12, To: 28, Promote: 6}, {From: 12, To: 28, Promote: -5}} {
		v := u
		v.Move = m
		checkBack(t, q, v, api.ErrArg)
		v.Captured, v.At = 99, -5
		checkBack(t, q, v, api.ErrArg)
	}
	checkBack(t, q, api.Undo{}, api.ErrArg)
	checkBack(t, api.Position{}, api.Undo{}, api.ErrArg)
	checkBack(t, api.Position{}, u, api.ErrArg)
}

// checkBack checks that Unmake, and Back with this record alone, return an error.
func checkBack(t *testing.T, p api.Position, u api.Undo, want api.Errno) {
	t.Helper()
	if q, e := making.Unmake(p, u); !zero(q) || e != want {
		t.Error(p, u, q, e)
	}
	if q, e := making.Back(p, []api.Undo{u}); !zero(q) || e != want {
		t.Error(p, u, q, e)
	}
}

// P8.3 and P8.4

// shuffle returns moves of knights that go to and fro.
func shuffle(t *testing.T, n int) []api.Move {
	t.Helper()
	four := line(t, api.Size{Files: 8, Ranks: 8}, "g1f3 g8f6 f3g1 f6g8")
	var l []api.Move
	for i := range n {
		l = append(l, four[i%4])
	}
	return l
}

// checkPlay checks that Play returns an error and a number.
func checkPlay(t *testing.T, p api.Position, l []api.Move, want int, wantE api.Errno) {
	t.Helper()
	if q, records, n, e := making.Play(p, l); !zero(q) || len(records) != 0 || n != want || e != wantE {
		t.Error(textOf(p), len(l), "moves lead to", textOf(q), len(records), n, e, "want", want, wantE)
	}
}

// checkGame checks Play with the moves of a game, and Back with their records.
func checkGame(t *testing.T, l []api.Move, positions []api.Position, records []api.Undo) {
	t.Helper()
	first, last := clone(positions[0]), clone(positions[len(l)])
	moves, undos := slices.Clone(l), slices.Clone(records)
	q, got, n, e := making.Play(first, moves)
	if !same(q, last) || !slices.Equal(got, records) || n != 0 || e != api.OK {
		t.Fatal(textOf(first), l, textOf(q), got, n, e)
	}
	p, e := making.Back(last, undos)
	if !same(p, first) || e != api.OK {
		t.Fatal(textOf(last), records, textOf(p), e)
	}
	if !slices.Equal(moves, l) || !slices.Equal(undos, records) || !same(first, positions[0]) || !same(last, positions[len(l)]) {
		t.Fatal("changed:", moves, undos, first, last)
	}
}

// Games on boards of all sizes, and all their beginnings and ends.
func TestGames(t *testing.T) {
	for _, s := range sizes() {
		d := dice(s.Files*100 + s.Ranks)
		for _, p := range samples(s, 4) {
			l, positions, records := game(p, &d, 12)
			for i := range len(l) + 1 {
				checkGame(t, l[:i], positions[:i+1], records[:i])
				checkGame(t, l[i:], positions[i:], records[i:])
			}
		}
	}
	d := dice(1)
	for range 4 {
		l, positions, records := game(position.Start(), &d, 150)
		checkGame(t, l, positions, records)
	}
}

func TestNoMoves(t *testing.T) {
	for _, s := range sizes() {
		for _, p := range samples(s, 2) {
			for _, l := range [][]api.Move{nil, {}} {
				if q, records, n, e := making.Play(p, l); !same(q, p) || len(records) != 0 || n != 0 || e != api.OK {
					t.Error(textOf(p), q, records, n, e)
				}
			}
			for _, l := range [][]api.Undo{nil, {}} {
				if q, e := making.Back(p, l); !same(q, p) || e != api.OK {
					t.Error(textOf(p), q, e)
				}
			}
		}
	}
}

func TestManyMoves(t *testing.T) {
	p := known(t, usual)
	for _, n := range []int{1, 2, 3, 4, 5, 999, 1000} {
		q, records, at, e := making.Play(p, shuffle(t, n))
		if e != api.OK || at != 0 || len(records) != n || q.Half != n || q.Full != 1+n/2 || q.Black != (n%2 == 1) {
			t.Error(n, textOf(q), len(records), at, e)
		}
		if back, e := making.Back(q, records); !same(back, p) || e != api.OK {
			t.Error(n, textOf(back), e)
		}
	}
	for _, n := range []int{lines + 1, lines + 2, 2 * lines, 100000} {
		checkPlay(t, p, shuffle(t, n), 0, api.ErrArg)
		checkPlay(t, p, make([]api.Move, n), 0, api.ErrArg)
		checkPlay(t, api.Position{}, make([]api.Move, n), 0, api.ErrArg)
		if q, e := making.Back(p, make([]api.Undo, n)); !zero(q) || e != api.ErrArg {
			t.Error(n, q, e)
		}
	}
	// One move more than may be played is taken back in two lists, but not in one.
	q, first, _, _ := making.Play(p, shuffle(t, lines))
	last, more, _, e := making.Play(q, []api.Move{shuffle(t, 1)[0]})
	if e != api.OK {
		t.Fatal(e)
	}
	if r, e := making.Back(last, append(slices.Clone(first), more...)); !zero(r) || e != api.ErrArg {
		t.Error(r, e)
	}
	half, e := making.Back(last, more)
	whole, f := making.Back(half, first)
	if e != api.OK || f != api.OK || !same(whole, p) {
		t.Error(textOf(half), textOf(whole), e, f)
	}
}

// wrongs has moves that cannot be made in positions of White and of Black of a game of knights, with their errors.
func wrongs() map[api.Move]api.Errno {
	return map[api.Move]api.Errno{
		{}:                             api.ErrArg,
		{From: 8, To: 64}:              api.ErrArg,
		{From: 8, To: 16, Promote: 6}:  api.ErrArg,
		{From: 24, To: 32}:             api.ErrNone,
		{From: 24, To: 32, Promote: 5}: api.ErrNone,
	}
}

// In each place of a list a move is put that cannot be made.
func TestPlayWrong(t *testing.T) {
	p := known(t, usual)
	good := shuffle(t, 12)
	for i := range good {
		for m, e := range wrongs() {
			l := slices.Clone(good)
			l[i] = m
			checkPlay(t, p, l, i, e)
			checkPlay(t, p, l[:i+1], i, e)
			// What is wrong after it does not matter, whichever error it would be.
			for n := range wrongs() {
				checkPlay(t, p, append(slices.Clone(l[:i+1]), n), i, e)
			}
		}
		l := slices.Clone(good)
		l[i] = api.Move{From: 0, To: 16}
		if i%2 == 1 {
			l[i] = api.Move{From: 56, To: 40}
		}
		checkPlay(t, p, l, i, api.ErrCheck)
	}
	for _, i := range []int{0, 1, 499, 998, 999} {
		for m, e := range wrongs() {
			l := shuffle(t, lines)
			l[i] = m
			checkPlay(t, p, l, i, e)
			checkPlay(t, p, append(l, m), 0, api.ErrArg)
		}
	}
}

// A game in which a king could be captured, and one in which a counter is full, after some moves.
func TestPlayKingAndFull(t *testing.T) {
	for i := range 12 {
		p := known(t, "5x5 4k/r3r/5/R3R/4K w - - 0 1")
		four := line(t, p.Size, "a2b2 a4b4 b2a2 b4a4")
		var l []api.Move
		for k := range i {
			l = append(l, four[k%4])
		}
		bad := api.Move{From: 9, To: 8}
		if i%2 == 1 {
			bad = api.Move{From: 19, To: 18}
		}
		checkPlay(t, p, append(l, bad), i, making.ErrKing)
		p = changed(known(t, usual), func(p *api.Position) { p.Half = limit - i })
		checkPlay(t, p, shuffle(t, 20), i, api.ErrFull)
		p = changed(known(t, usual), func(p *api.Position) { p.Full = limit - i })
		checkPlay(t, p, shuffle(t, 40), 2*i+1, api.ErrFull)
	}
}

// The first position is looked at before the moves.
func TestPlayErrArg(t *testing.T) {
	p := known(t, usual)
	for _, change := range changes() {
		q := changed(p, change)
		for _, l := range [][]api.Move{nil, {}, shuffle(t, 1), shuffle(t, 5), {{From: 24, To: 32}}, {{From: 12, To: 28}, {}}, make([]api.Move, 2000)} {
			checkPlay(t, q, l, 0, api.ErrArg)
		}
		for _, l := range [][]api.Undo{nil, {}, make([]api.Undo, 1), make([]api.Undo, 2000)} {
			if r, e := making.Back(q, l); !zero(r) || e != api.ErrArg {
				t.Error(q, len(l), r, e)
			}
		}
	}
}

// In each place of a list of records one is changed, in each of its parts alone.
func TestBackAltered(t *testing.T) {
	d := dice(5)
	counts := map[api.Errno]int{}
	for _, text := range []string{usual, corners, "3x6 2k/p1p/3/3/P1P/K2 w - - 0 1", "8x8 4k3/P6p/8/8/3p4/8/p1P4P/4K3 w - - 0 1"} {
		l, positions, records := game(known(t, text), &d, 8)
		last := positions[len(l)]
		for i := range records {
			for _, v := range alterations(last.Size, records[i]) {
				list := slices.Clone(records)
				list[i] = v
				before, e := unmade(positions[i+1], v)
				// The first record that is taken back and does not fit tells the error.
				for k := i - 1; k >= 0 && e == api.OK; k-- {
					before, e = unmade(before, records[k])
				}
				counts[e]++
				if p, got := making.Back(last, list); got != e || !same(p, before) {
					t.Fatal(text, l, i, v, textOf(p), got, "want", textOf(before), e)
				}
			}
		}
	}
	if counts[api.ErrArg] < 100 || counts[api.ErrCheck] < 1000 {
		t.Error(counts)
	}
}

// The last record is taken back first: the error is that of the last one that is wrong.
func TestBackOrder(t *testing.T) {
	p := known(t, usual)
	q, records, _, e := making.Play(p, line(t, p.Size, "e2e4 e7e5 g1f3 b8c6"))
	if e != api.OK {
		t.Fatal(e)
	}
	wrong := records[0]
	wrong.Full = 3
	for i := range records {
		for k := range records {
			list := slices.Clone(records)
			list[i], list[k] = api.Undo{}, wrong
			want := api.ErrArg
			if k >= i {
				want = api.ErrCheck
			}
			if r, e := making.Back(q, list); !zero(r) || e != want {
				t.Error(i, k, textOf(r), e, want)
			}
		}
	}
	slices.Reverse(records)
	if r, e := making.Back(q, records); !zero(r) || e != api.ErrCheck {
		t.Error(textOf(r), e)
	}
}

// P8.5

func TestInverses(t *testing.T) {
	count := 0
	for _, c := range steps(40) {
		q, u, e := making.Make(c.p, c.u.Move)
		if e != api.OK || !position.Valid(q) {
			t.Fatal(textOf(c.p), c.u, q, e)
		}
		p, e := making.Unmake(q, u)
		if e != api.OK || !same(p, c.p) {
			t.Fatal(textOf(c.p), c.u, textOf(q), textOf(p), e)
		}
		again, v, e := making.Make(p, u.Move)
		if e != api.OK || v != u || !same(again, q) {
			t.Fatal(textOf(c.p), c.u, textOf(again), v, e)
		}
		count++
	}
	if count < 2000 {
		t.Error("only", count)
	}
}

// What Unmake takes back for records that are not of a move that was made, Make makes again.
func TestUnmakeThenMake(t *testing.T) {
	count := 0
	for i, c := range steps(2) {
		if i%7 != 0 {
			continue
		}
		for _, v := range alterations(c.p.Size, c.u) {
			p, e := making.Unmake(c.q, v)
			if e != api.OK {
				continue
			}
			count++
			q, u, e := making.Make(p, v.Move)
			if e != api.OK || u != v || !same(q, c.q) || !position.Valid(p) {
				t.Fatal(textOf(c.q), v, textOf(p), textOf(q), u, e)
			}
		}
	}
	if count < 300 {
		t.Error("only", count)
	}
}

// No two results share memory, nor does a result with an argument, even if the argument's slice could hold more.
func TestMemory(t *testing.T) {
	p := known(t, usual)
	roomy := make([]api.Piece, 64, 200)
	copy(roomy, p.Pieces)
	p.Pieces = roomy
	clear(roomy[64:200])
	m := moving(t, p.Size, "e2e4")
	q, u, _ := making.Make(p, m)
	before, _ := making.Unmake(q, u)
	played, records, _, _ := making.Play(p, []api.Move{m})
	stood, _, _, _ := making.Play(p, nil)
	back, _ := making.Back(q, []api.Undo{u})
	still, _ := making.Back(q, nil)
	texts := map[string]string{}
	all := map[string]api.Position{"p": p, "q": q, "before": before, "played": played, "stood": stood, "back": back, "still": still}
	for name, r := range all {
		texts[name] = textOf(r)
	}
	for name, r := range all {
		kept := slices.Clone(r.Pieces)
		long := r.Pieces[:cap(r.Pieces)]
		for at := range long {
			long[at] = 9
		}
		for other, o := range all {
			if other != name && textOf(o) != texts[other] {
				t.Error(name, "shares memory with", other)
			}
		}
		copy(r.Pieces, kept)
		clear(long[len(r.Pieces):])
	}
	again := slices.Clone(records)
	records[0] = api.Undo{}
	if _, other, _, _ := making.Play(p, []api.Move{m}); !slices.Equal(other, again) || slices.ContainsFunc(roomy[64:200], func(x api.Piece) bool { return x != 0 }) {
		t.Error(other, again, roomy)
	}
}

// The same calls have the same results, whatever was called between them.
func TestCallsAgain(t *testing.T) {
	l := steps(1)
	for _, c := range append(slices.Clone(l), l...) {
		q, u, e := making.Make(c.p, c.u.Move)
		p, f := making.Unmake(c.q, c.u)
		if !same(q, c.q) || u != c.u || !same(p, c.p) || e != api.OK || f != api.OK {
			t.Fatal(textOf(c.p), c.u, textOf(q), textOf(p), e, f)
		}
	}
}

func TestErrKingNumber(t *testing.T) {
	if making.ErrKing != 90 {
		t.Error(making.ErrKing)
	}
}

// P1 of DOC.md: whatever the arguments are, each function returns, and with an error everything else is zero.
func TestAnyArguments(t *testing.T) {
	var l []api.Position
	for i, n := range numbers {
		pieces := make([]api.Piece, 65*(i%2)+i)
		for at := range pieces {
			pieces[at] = api.Piece(at*i + n)
		}
		for _, s := range append(sizes(), badSizes...) {
			l = append(l, api.Position{Size: s, Pieces: pieces, Black: i%3 == 0, Castle: uint8(n), Passant: n, Half: n, Full: n})
		}
		for _, s := range []api.Size{{Files: n, Ranks: n}, {Files: 8, Ranks: n}, {Files: n, Ranks: 8}} {
			l = append(l, api.Position{Size: s, Pieces: pieces, Castle: uint8(i), Passant: -1, Half: n, Full: 1})
			l = append(l, api.Position{Size: s, Pieces: pieces[:min(64, len(pieces))], Black: true, Castle: 15, Passant: n})
		}
	}
	for i, p := range append(l, api.Position{}) {
		n := numbers[i%len(numbers)]
		m := api.Move{From: n, To: i % 64, Promote: api.Piece(i % 7)}
		checkMake(t, p, m)
		checkUnmake(t, p, api.Undo{Move: m, Captured: api.Piece(n), At: n, Castle: uint8(n), Passant: n, Half: n, Full: n})
	}
}

// Each number is tried for each part of a record and of a move, in valid positions.
func TestAnyRecords(t *testing.T) {
	for _, s := range sizes() {
		for _, p := range samples(s, 3) {
			for _, n := range numbers {
				checkMake(t, p, api.Move{From: n, To: 1})
				checkMake(t, p, api.Move{From: 1, To: n})
				checkMake(t, p, api.Move{From: n, To: n, Promote: api.Piece(n)})
				for _, m := range []api.Move{{From: 0, To: 1}, {From: 4, To: 6}, {From: 4, To: 2}, {From: 60, To: 62}, {From: 60, To: 58}, {From: n, To: 1}, {From: 2, To: n, Promote: 5}} {
					u := api.Undo{Move: m, Captured: -2, At: m.To, Castle: uint8(n), Passant: -1, Half: 1, Full: 1}
					checkUnmake(t, p, u)
					u.At, u.Castle = n, 255
					checkUnmake(t, p, u)
					u.Captured = api.Piece(n)
					checkUnmake(t, p, u)
					checkUnmake(t, p, api.Undo{Move: m, Captured: api.Piece(n), At: n, Castle: uint8(n), Passant: n, Half: n, Full: n})
				}
			}
		}
	}
}
