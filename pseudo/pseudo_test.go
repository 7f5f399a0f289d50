package pseudo_test

import (
	"math"
	"slices"
	"testing"

	"caissa/api"
	"caissa/making"
	"caissa/move"
	"caissa/position"
	"caissa/pseudo"
)

const (
	usual   = "8x8 rnbqkbnr/pppppppp/8/8/8/8/PPPPPPPP/RNBQKBNR w KQkq - 0 1"
	corners = "8x8 r3k2r/8/8/8/8/8/8/R3K2R w KQkq - 3 9"
)

// The calls of the functions that are tested, each compared with what it has to return.

// checkFrom checks From in a valid position, and returns the moves.
func checkFrom(t *testing.T, p api.Position, at int) []api.Move {
	t.Helper()
	want := possible(p, at)
	if l, e := pseudo.From(p, at); !slices.Equal(l, want) || e != api.OK {
		t.Fatal(textOf(p), "from", at, lineOf(p.Size, l), e, "want", lineOf(p.Size, want))
	}
	return want
}

// checkMoves checks Moves, and From for all squares, in a valid position.
func checkMoves(t *testing.T, p api.Position) {
	t.Helper()
	kept := changed(p, func(*api.Position) {})
	var all []api.Move
	for at := range p.Pieces {
		all = append(all, checkFrom(t, p, at)...)
	}
	if l, e := pseudo.Moves(p); !slices.Equal(l, all) || e != api.OK {
		t.Fatal(textOf(p), lineOf(p.Size, l), e, "want", lineOf(p.Size, all))
	}
	if !same(p, kept) {
		t.Fatal(textOf(kept), "became", textOf(p))
	}
}

// checkMove checks Is, Captured and Castles for a valid move in a valid position, and returns words for what is special about it.
func checkMove(t *testing.T, p api.Position, m api.Move) []string {
	t.Helper()
	kept := changed(p, func(*api.Position) {})
	defer func() {
		if !same(p, kept) {
			t.Fatal(textOf(kept), m, "became", textOf(p))
		}
	}()
	if !can(p, m) {
		checkResults(t, p, m, false, api.OK, api.ErrCheck, 0, 0, false)
		return []string{"not"}
	}
	piece, at := taken(p, m)
	bit := castlesWith(p, m)
	checkResults(t, p, m, true, api.OK, api.OK, piece, at, bit != 0)
	words := []string{"moves"}
	if bit != 0 {
		words = append(words, "castles "+string('0'+rune(bit)))
	}
	if at >= 0 && at != m.To {
		words = append(words, "passant")
	} else if at >= 0 {
		words = append(words, "captures")
	}
	if m.Promote != 0 {
		words = append(words, "promotes")
	}
	if _, ranks := apart(p.Size, m.From, m.To); abs(int(p.Pieces[m.From])) == 1 && abs(ranks) == 2 {
		words = append(words, "steps twice")
	}
	return words
}

// checkResults checks what Is, Captured and Castles return.
func checkResults(t *testing.T, p api.Position, m api.Move, is bool, isE, e api.Errno, piece api.Piece, at int, castles bool) {
	t.Helper()
	if got, gotE := pseudo.Is(p, m); got != is || gotE != isE {
		t.Fatal("Is", textOf(p), m, got, gotE, "want", is, isE)
	}
	if gotPiece, gotAt, gotE := pseudo.Captured(p, m); gotPiece != piece || gotAt != at || gotE != e {
		t.Fatal("Captured", textOf(p), m, gotPiece, gotAt, gotE, "want", piece, at, e)
	}
	if got, gotE := pseudo.Castles(p, m); got != castles || gotE != e {
		t.Fatal("Castles", textOf(p), m, got, gotE, "want", castles, e)
	}
}

// checkArg checks that Is, Captured and Castles return ErrArg.
func checkArg(t *testing.T, p api.Position, m api.Move) {
	t.Helper()
	checkResults(t, p, m, false, api.ErrArg, api.ErrArg, 0, 0, false)
}

// checkInvalid checks that all functions return ErrArg for a position, with a number and a move.
func checkInvalid(t *testing.T, p api.Position, at int, m api.Move) {
	t.Helper()
	kept := changed(p, func(*api.Position) {})
	if l, e := pseudo.Moves(p); len(l) != 0 || e != api.ErrArg {
		t.Fatal("Moves", p, l, e)
	}
	if l, e := pseudo.From(p, at); len(l) != 0 || e != api.ErrArg {
		t.Fatal("From", p, at, l, e)
	}
	checkArg(t, p, m)
	if !same(p, kept) {
		t.Fatal(kept, "became", p)
	}
}

// checkAll checks everything for a valid position and all valid moves, and counts the words.
func checkAll(t *testing.T, p api.Position, counts map[string]int) {
	t.Helper()
	checkMoves(t, p)
	for from := range p.Pieces {
		for _, m := range valid(p, from) {
			for _, word := range checkMove(t, p, m) {
				counts[word]++
			}
		}
	}
}

// checkSquare checks From, and the valid moves from a square in a valid position, and counts the words; all numbers are tried for Promote on every fifth square only.
func checkSquare(t *testing.T, p api.Position, at int, counts map[string]int) {
	t.Helper()
	checkFrom(t, p, at)
	for _, m := range valid(p, at) {
		if m.Promote == 0 || m.To%5 == 0 || can(p, m) {
			for _, word := range checkMove(t, p, m) {
				counts[word]++
			}
		}
	}
}

// checkOwn checks everything for a valid position, its pseudo-legal moves, and the same moves with one part changed.
func checkOwn(t *testing.T, p api.Position, counts map[string]int) {
	t.Helper()
	checkMoves(t, p)
	for _, m := range possibleAll(p) {
		near := []api.Move{m, {From: m.To, To: m.From, Promote: m.Promote}, {From: m.From, To: m.To, Promote: (m.Promote + 4) % 6}, {From: m.From, To: (m.To + 1) % len(p.Pieces), Promote: m.Promote}}
		for _, n := range near {
			if move.Valid(p.Size, n) {
				for _, word := range checkMove(t, p, n) {
					counts[word]++
				}
			}
		}
	}
}

// checkCounts checks that each word was counted often enough.
func checkCounts(t *testing.T, counts map[string]int, least int, words ...string) {
	t.Helper()
	for _, word := range words {
		if counts[word] < least {
			t.Error("only", counts[word], word)
		}
	}
}

// checkList checks which moves a position has, from a square or (without its name) from all.
func checkList(t *testing.T, text, from, want string) {
	t.Helper()
	p := known(t, text)
	checkAll(t, p, map[string]int{})
	l, e := pseudo.Moves(p)
	if from != "" {
		l, e = pseudo.From(p, int(from[0]-'a')+int(from[1]-'1')*p.Size.Files)
	}
	if got := lineOf(p.Size, l); got != want || e != api.OK {
		t.Error(text, from, got, e, "want", want)
	}
}

// P9.1, P9.2 and P9.3

func TestLists(t *testing.T) {
	for _, c := range []struct{ text, from, want string }{
		{usual, "", "b1a3 b1c3 g1f3 g1h3 a2a3 a2a4 b2b3 b2b4 c2c3 c2c4 d2d3 d2d4 e2e3 e2e4 f2f3 f2f4 g2g3 g2g4 h2h3 h2h4"},
		{usual, "e1", ""}, {usual, "e4", ""}, {usual, "b8", ""}, {usual, "b1", "b1a3 b1c3"},
		{"8x8 rnbqkbnr/pppppppp/8/8/4P3/8/PPPP1PPP/RNBQKBNR b KQkq e3 0 1", "", "a7a5 a7a6 b7b5 b7b6 c7c5 c7c6 d7d5 d7d6 e7e5 e7e6 f7f5 f7f6 g7g5 g7g6 h7h5 h7h6 b8a6 b8c6 g8f6 g8h6"},
		{"4x4 1k2/1r2/1R2/1K2 w - - 0 1", "", "b1a1 b1c1 b1a2 b1c2 b2a2 b2c2 b2d2 b2b3"},
		{"4x4 1k2/1r2/1R2/1K2 b - - 0 1", "", "b3b2 b3a3 b3c3 b3d3 b4a3 b4c3 b4a4 b4c4"},
		{"3x3 2k/P2/2K w - - 5 7", "", "c1b1 c1b2 c1c2 a2a3N a2a3B a2a3R a2a3Q"},
		{"3x3 2k/P2/2K w - - 5 7", "a2", "a2a3N a2a3B a2a3R a2a3Q"},
		{"3x3 2k/P2/2K b - - 5 7", "a2", ""},
		{"3x3 K2/2p/1Rk b - - 5 7", "c2", "c2b1N c2b1B c2b1R c2b1Q"},
		{"3x3 2K/1p1/Rkn b - - 5 7", "b2", "b2a1N b2a1B b2a1R b2a1Q"},
		{"3x4 q2/1P1/k2/2K w - - 0 1", "b3", "b3a4N b3a4B b3a4R b3a4Q b3b4N b3b4B b3b4R b3b4Q"},
		{"3x3 k2/3/2K w - - 0 1", "", "c1b1 c1b2 c1c2"},
		{"8x8 3qk3/8/8/8/8/8/8/R3K2R w KQ - 3 9", "e1", "e1c1 e1d1 e1f1 e1g1 e1d2 e1e2 e1f2"},
		{"8x8 3qk3/8/8/8/8/8/8/R3K2R w KQ - 3 9", "h1", "h1f1 h1g1 h1h2 h1h3 h1h4 h1h5 h1h6 h1h7 h1h8"},
		{"8x8 r3k2r/8/8/8/8/8/8/4K3 b kq - 3 9", "e8", "e8d7 e8e7 e8f7 e8c8 e8d8 e8f8 e8g8"},
		{"8x8 r3k2r/8/8/8/8/8/8/4K3 b q - 3 9", "e8", "e8d7 e8e7 e8f7 e8c8 e8d8 e8f8"},
		{"8x8 r3k2r/8/8/8/8/8/8/4K3 w kq - 3 9", "e1", "e1d1 e1f1 e1d2 e1e2 e1f2"},
		{"5x5 4k/5/1N1p1/5/K4 w - - 0 1", "b3", "b3c1 b3d2 b3d4 b3a5 b3c5"},
		{"5x5 5/k2p1/2B2/1R3/K4 w - - 0 1", "c3", "c3e1 c3d2 c3b4 c3d4 c3a5"},
		{"5x5 5/k2p1/2Q2/1R3/K4 w - - 0 1", "c3", "c3c1 c3e1 c3c2 c3d2 c3a3 c3b3 c3d3 c3e3 c3b4 c3c4 c3d4 c3a5 c3c5"},
		{"3x6 k2/3/3/Pp1/3/2K w - b4 0 1", "", "c1b1 c1b2 c1c2 a3a4 a3b4"},
		{"3x6 k2/3/3/Pp1/3/2K w - - 0 1", "", "c1b1 c1b2 c1c2 a3a4"},
		{"3x6 2k/3/pPp/3/3/2K b - b3 0 1", "", "a4a3 a4b3 c4b3 c4c3 c6b5 c6c5 c6b6"},
	} {
		checkList(t, c.text, c.from, c.want)
	}
}

// All valid moves are tried in positions on boards of all sizes.
func TestAllMoves(t *testing.T) {
	t.Parallel()
	counts := map[string]int{}
	for _, s := range sizes() {
		for _, p := range samples(s, 5) {
			checkAll(t, p, counts)
		}
	}
	checkCounts(t, counts, 5, "not", "moves", "passant", "captures", "promotes", "steps twice")
}

// Pseudo-legal moves, and what is much like them, are tried in many more positions.
func TestSamples(t *testing.T) {
	t.Parallel()
	counts := map[string]int{}
	for _, s := range sizes() {
		n := 60
		if s.Files*s.Ranks == 64 {
			n = 1200
		}
		for _, p := range samples(s, n) {
			checkOwn(t, p, counts)
		}
	}
	checkCounts(t, counts, 20, "castles 1", "castles 2", "castles 4", "castles 8", "not", "moves", "passant", "captures", "promotes", "steps twice")
}

// Each piece is on each square of all boards, alone but for two kings.
func TestOnePiece(t *testing.T) {
	t.Parallel()
	counts := map[string]int{}
	for _, s := range sizes() {
		for at := range s.Files * s.Ranks {
			for n := range 10 {
				piece := api.Piece(n/2+1) * api.Piece(1-n%2*2)
				if piece == 1 && at/s.Files == s.Ranks-1 || piece == -1 && at/s.Files == 0 {
					continue
				}
				for _, p := range crowned(put(empty(s, piece < 0), at, piece)) {
					checkSquare(t, p, at, counts)
				}
			}
		}
	}
	checkCounts(t, counts, 100, "not", "moves", "promotes", "steps twice")
}

// A king is on each square of all boards, the other one beside the squares to which it goes, or in a corner.
func TestKing(t *testing.T) {
	t.Parallel()
	counts := map[string]int{}
	for _, s := range sizes() {
		for at := range s.Files * s.Ranks {
			for _, king := range []api.Piece{6, -6} {
				p := put(empty(s, king < 0), at, king)
				for other := range p.Pieces {
					files, ranks := apart(s, at, other)
					if n := max(abs(files), abs(ranks)); n == 2 && (files+ranks)%3 == 0 || n > 2 && other == 0 {
						checkSquare(t, put(p, other, -king), at, counts)
					}
				}
			}
		}
	}
	checkCounts(t, counts, 1000, "not", "moves")
}

// On each square to which a piece may go there is another piece of either side, one after the other.
func TestTakenSquares(t *testing.T) {
	t.Parallel()
	own, foe := 0, 0
	for _, s := range []api.Size{{Files: 3, Ranks: 3}, {Files: 4, Ranks: 3}, {Files: 3, Ranks: 6}, {Files: 5, Ranks: 5}, {Files: 8, Ranks: 4}} {
		for at := range s.Files * s.Ranks {
			for n := range 8 {
				piece := api.Piece(n/2+2) * api.Piece(1-n%2*2)
				for _, p := range crowned(put(empty(s, piece < 0), at, piece)) {
					for _, m := range possible(p, at) {
						for there := api.Piece(-5); there <= 5; there++ {
							q := put(p, m.To, there)
							if !position.Valid(q) {
								continue
							}
							checkMove(t, q, m)
							checkFrom(t, q, at)
							if int(there)*side(p) > 0 {
								own++
							} else if there != 0 {
								foe++
							}
						}
					}
				}
			}
		}
	}
	if own < 1000 || foe < 1000 {
		t.Error(own, foe)
	}
}

// Pawns are on all squares of some boards, with all mixtures of pieces before and beside them.
func TestPawn(t *testing.T) {
	t.Parallel()
	counts := map[string]int{}
	for _, s := range []api.Size{{Files: 3, Ranks: 3}, {Files: 3, Ranks: 4}, {Files: 4, Ranks: 5}, {Files: 3, Ranks: 6}, {Files: 4, Ranks: 7}, {Files: 3, Ranks: 8}} {
		for at := range s.Files * s.Ranks {
			for n := range 81 * 2 {
				pawn := api.Piece(1 - n%2*2)
				p, ok := surrounded(s, at, pawn, n/2)
				if !ok {
					continue
				}
				for _, q := range crowned(p) {
					checkSquare(t, q, at, counts)
				}
			}
		}
	}
	checkCounts(t, counts, 100, "not", "moves", "captures", "promotes", "steps twice")
}

// surrounded returns a board with a pawn, and nothing, an own piece or one of the other side on each of four squares before it, as a number with four digits says; or none if the pawn is on its last rank.
func surrounded(s api.Size, at int, pawn api.Piece, digits int) (api.Position, bool) {
	p := put(empty(s, pawn < 0), at, pawn)
	file, rank := at%s.Files, at/s.Files
	if next := rank + int(pawn); next < 0 || next >= s.Ranks {
		return p, false
	}
	for _, to := range [...][2]int{{0, 1}, {0, 2}, {-1, 1}, {1, 1}} {
		f, r := file+to[0], rank+to[1]*int(pawn)
		if 0 <= f && f < s.Files && 0 <= r && r < s.Ranks {
			p.Pieces[f+r*s.Files] = [...]api.Piece{0, 2, -3}[digits%3] * pawn
		}
		digits /= 3
	}
	return p, true
}

// On each file of each board a pawn has just gone two ranks: the pawns beside it capture it, and no other piece does so on the square behind it.
func TestPassant(t *testing.T) {
	t.Parallel()
	counts := map[string]int{}
	for _, s := range sizes() {
		if s.Ranks < 6 {
			continue
		}
		for n := range s.Files * 2 {
			bare := passed(empty(s, n%2 == 0), n/2)
			for _, p := range crowned(bare) {
				checkPassant(t, p, counts)
				own := api.Piece(side(p))
				for at := range p.Pieces {
					piece := own * api.Piece(at%5+1)
					q := put(p, at, piece)
					if p.Pieces[at] != 0 || !position.Valid(q) {
						continue
					}
					checkOwn(t, q, counts)
				}
			}
		}
	}
	checkCounts(t, counts, 500, "passant", "moves", "not")
}

// checkPassant checks a position in which own pawns are beside one that has just gone two ranks, with the square behind it and without.
func checkPassant(t *testing.T, p api.Position, counts map[string]int) {
	t.Helper()
	checkOwn(t, p, counts)
	behind, passing := p.Passant, p.Passant-side(p)*p.Size.Files
	without := changed(p, func(q *api.Position) { q.Passant = -1 })
	checkOwn(t, without, counts)
	for _, from := range []int{passing - 1, passing + 1} {
		if from/p.Size.Files != passing/p.Size.Files || int(p.Pieces[from]) != side(p) {
			continue
		}
		m := api.Move{From: from, To: behind}
		checkResults(t, p, m, true, api.OK, api.OK, api.Piece(-side(p)), passing, false)
		checkResults(t, without, m, false, api.OK, api.ErrCheck, 0, 0, false)
		counts["passant"]++
	}
}

// Other pieces may go to the square behind a pawn that has just gone two ranks, but capture nothing there.
func TestNotPassant(t *testing.T) {
	for _, c := range []struct{ text, move string }{
		{"5x6 4k/5/5/1p1N1/5/4K w - b4 0 1", "d3b4"}, {"5x6 4k/2B2/5/1p3/5/4K w - b4 0 1", "c5b4"}, {"5x6 4k/5/R4/1p3/5/4K w - b4 0 1", "a4b4"}, {"5x6 4k/5/3Q1/1p3/5/4K w - b4 0 1", "d4b4"}, {"5x6 4k/5/2K2/1p3/5/5 w - b4 0 1", "c4b4"}, {"5x6 4k/5/1P3/3r1/5/4K b - b3 0 1", "d3b3"}, {"5x6 4k/5/1P3/r4/5/4K b - b3 0 1", "a3b3"},
	} {
		p := known(t, c.text)
		checkResults(t, p, line(t, p.Size, c.move)[0], true, api.OK, api.OK, 0, -1, false)
	}
}

// A pawn needs Promote on its last rank, whether it steps or captures, and has none elsewhere; other pieces have none anywhere.
func TestPromote(t *testing.T) {
	for _, c := range []struct {
		text, move string
		captured   api.Piece
		promotes   bool
	}{
		{"3x3 2k/P2/2K w - - 5 7", "a2a3", 0, true}, {"3x4 q2/1P1/k2/2K w - - 0 1", "b3b4", 0, true}, {"3x4 q2/1P1/k2/2K w - - 0 1", "b3a4", -5, true}, {"3x4 k2/3/1pK/2N b - - 0 1", "b2b1", 0, true}, {"3x4 k2/3/1pK/2N b - - 0 1", "b2c1", 2, true},
		{"8x8 r3k2r/1P6/8/8/8/8/8/4K3 w kq - 0 1", "b7a8", -4, true}, {"8x8 4k3/8/8/8/8/8/6p1/R3K2R b KQ - 0 1", "g2h1", 4, true},
		{"3x4 k2/3/P2/2K w - - 0 1", "a2a3", 0, false}, {"3x4 k2/3/P2/2K w - - 0 1", "c1c2", 0, false}, {"3x4 1k1/3/R2/2K w - - 0 1", "a2a4", 0, false}, {"3x4 1k1/3/3/2K b - - 0 1", "b4c4", 0, false}, {"3x4 1k1/3/r2/2K b - - 0 1", "a2b2", 0, false}, {"3x4 2k/2p/P2/2K b - - 0 1", "c3c2", 0, false},
	} {
		p := known(t, c.text)
		m := line(t, p.Size, c.move)[0]
		at := -1
		if c.captured != 0 {
			at = m.To
		}
		for n := range 256 {
			m.Promote = api.Piece(n - 128)
			switch {
			case m.Promote != 0 && (m.Promote < 2 || m.Promote > 5):
				checkArg(t, p, m)
			case (m.Promote != 0) == c.promotes:
				checkResults(t, p, m, true, api.OK, api.OK, c.captured, at, false)
			default:
				checkResults(t, p, m, false, api.OK, api.ErrCheck, 0, 0, false)
			}
		}
	}
}

// Each way of castling is tried with all rights, with no other piece and with each piece on each empty square.
func TestCastling(t *testing.T) {
	t.Parallel()
	counts := map[string]int{}
	for n := range 16 * 2 {
		bare := changed(known(t, corners), func(p *api.Position) { p.Castle, p.Black = uint8(n/2), n%2 == 1 })
		checkCastling(t, bare, counts)
		for at := range bare.Pieces {
			for piece := api.Piece(-5); piece <= 5; piece++ {
				if p := put(bare, at, piece); bare.Pieces[at] == 0 && piece != 0 && position.Valid(p) {
					checkCastling(t, p, counts)
				}
			}
		}
	}
	checkCounts(t, counts, 1000, "castles 1", "castles 2", "castles 4", "castles 8", "not")
	checkCounts(t, counts, 50, "king")
}

// checkCastling checks the moves of the king of the side to move, and counts those with which it castles though Make forbids it because of the king.
func checkCastling(t *testing.T, p api.Position, counts map[string]int) {
	t.Helper()
	for _, c := range castlings {
		m := c.king
		for _, word := range checkMove(t, p, m) {
			counts[word]++
		}
		if _, _, e := making.Make(p, m); e == making.ErrKing && castlesWith(p, m) != 0 {
			counts["king"]++
		}
		m.Promote = 4
		checkMove(t, p, m)
		checkFrom(t, p, m.From)
	}
}

// Pieces stand on all sets of the squares between the kings and the rooks.
func TestBetween(t *testing.T) {
	squares := []int{1, 2, 3, 5, 6, 57, 58, 59, 61, 62}
	counts := map[string]int{}
	for set := range 1 << len(squares) {
		p := known(t, corners)
		p.Black = set%3 == 0
		for i, at := range squares {
			if set>>i&1 != 0 {
				p.Pieces[at] = [...]api.Piece{2, -2, 3}[(set+i)%3]
			}
		}
		if position.Valid(p) {
			checkCastling(t, p, counts)
		}
	}
	checkCounts(t, counts, 40, "castles 1", "castles 2", "castles 4", "castles 8")
}

// A king castles with a right alone, and other pieces that go the same way do not castle, nor does a king that goes one square.
func TestNotCastling(t *testing.T) {
	for _, c := range []struct {
		text, move  string
		is, castles bool
	}{
		{corners, "e1g1", true, true}, {corners, "e1c1", true, true}, {corners, "e8g8", false, false}, {corners, "e1f1", true, false}, {corners, "e1d2", true, false}, {corners, "h1g1", true, false}, {corners, "a1d1", true, false}, {corners, "e1e3", false, false}, {corners, "e1b1", false, false}, {corners, "e1h1", false, false}, {corners, "e1a1", false, false},
		{"8x8 r3k2r/8/8/8/8/8/8/R3K2R b KQkq - 3 9", "e8g8", true, true}, {"8x8 r3k2r/8/8/8/8/8/8/R3K2R b KQkq - 3 9", "e8c8", true, true}, {"8x8 r3k2r/8/8/8/8/8/8/R3K2R b KQkq - 3 9", "e1c1", false, false}, {"8x8 r3k2r/8/8/8/8/8/8/R3K2R b KQkq - 3 9", "e8d8", true, false},
		{"8x8 r3k2r/8/8/8/8/8/8/R3K2R w - - 3 9", "e1g1", false, false}, {"8x8 r3k2r/8/8/8/8/8/8/R3K2R w Qkq - 3 9", "e1g1", false, false}, {"8x8 r3k2r/8/8/8/8/8/8/R3K2R w Kkq - 3 9", "e1c1", false, false}, {"8x8 r3k2r/8/8/8/8/8/8/R3K2R w Kkq - 3 9", "e1g1", true, true},
		{"8x8 3k4/8/8/8/8/8/7K/R3Q2R w - - 3 9", "e1g1", true, false}, {"8x8 3k4/8/8/8/8/8/7K/R3Q2R w - - 3 9", "e1c1", true, false}, {"8x8 4k2r/8/8/8/8/8/6K1/R3R3 b k - 3 9", "e8g8", true, true},
		{"8x8 4k2r/8/8/8/4K3/8/8/8 w k - 3 9", "e4g4", false, false}, {"8x8 4k2r/8/8/8/7K/8/8/8 w k - 3 9", "h4b5", false, false}, {"8x8 4k2r/8/8/8/8/8/8/6K1 w k - 3 9", "g1a2", false, false},
		{"3x4 2k/3/1K1/3 w - - 0 1", "b2c1", true, false}, {"3x4 2k/3/1K1/3 w - - 0 1", "b2a3", true, false}, {"4x4 3k/4/K3/4 w - - 0 1", "a2c2", false, false}, {"4x4 3k/4/K3/4 w - - 0 1", "a2c1", false, false}, {"8x7 4k2r/8/8/8/8/8/R3K2R w - - 0 1", "e1g1", false, false}, {"7x8 4k2/7/7/7/7/7/7/R3K1R w - - 0 1", "e1c1", false, false},
	} {
		p := known(t, c.text)
		want, at := api.OK, -1
		if !c.is {
			want, at = api.ErrCheck, 0
		}
		checkResults(t, p, line(t, p.Size, c.move)[0], c.is, api.OK, want, 0, at, c.castles)
	}
}

// Moves after which the king could be captured, and castling out of a check, over an attacked square or into a check, are pseudo-legal.
func TestKingCouldBeCaptured(t *testing.T) {
	for _, c := range []struct{ text, moves string }{
		{"4x4 1k2/1r2/1R2/1K2 w - - 0 1", "b2a2 b2c2 b2d2"},
		{"3x3 k2/3/2K w - - 0 1", "c1b2"},
		{"3x3 k2/3/2K b - - 0 1", "a3b2"},
		{"4x4 k2r/4/4/P2K w - - 0 1", "a1a2 d1d2"},
		{"5x5 k3b/5/2N2/5/K4 w - - 0 1", "c3b1 c3d1 c3a2 c3e2 c3a4 c3e4 c3b5 c3d5"},
		{"3x6 k2/3/3/Kpr/3/3 w - - 0 1", "a3a2 a3b3"},
		{"5x6 k4/5/5/KPp1r/5/5 w - c4 0 1", "b3c4"},
		{"8x8 4k3/8/8/8/8/8/8/R3K2r w Q - 0 1", "e1c1 a1a2"},
		{"8x8 4kr2/8/8/8/8/8/8/R3K2R w KQ - 3 9", "e1g1 e1f1"},
		{"8x8 4k1r1/8/8/8/8/8/8/R3K2R w KQ - 3 9", "e1g1"},
		{"8x8 r3k2r/8/8/8/8/8/4R3/4K3 b kq - 3 9", "e8g8 e8c8 a8a7 h8h1"},
	} {
		p := known(t, c.text)
		for _, m := range line(t, p.Size, c.moves) {
			checkMove(t, p, m)
			if is, e := pseudo.Is(p, m); !is || e != api.OK {
				t.Error(c.text, m, is, e)
			}
			if l, e := pseudo.Moves(p); !slices.Contains(l, m) || e != api.OK {
				t.Error(c.text, m, l, e)
			}
			if _, _, e := making.Make(p, m); e != making.ErrKing {
				t.Error(c.text, m, e)
			}
		}
	}
}

// A full counter forbids no pseudo-legal move.
func TestFullCounters(t *testing.T) {
	for _, text := range []string{"3x3 k2/3/2K w - - 10000 1", "3x3 k2/3/2K b - - 0 10000", "3x3 k2/3/2K b - - 10000 10000", "8x8 r3k2r/8/8/8/8/8/8/R3K2R b KQkq - 10000 10000"} {
		p := known(t, text)
		checkAll(t, p, map[string]int{})
		full := 0
		l, e := pseudo.Moves(p)
		for _, m := range l {
			if _, _, f := making.Make(p, m); f == api.ErrFull {
				full++
			}
		}
		if full == 0 || e != api.OK {
			t.Error(text, l, e)
		}
	}
}

func TestNoMoves(t *testing.T) {
	for _, text := range []string{
		"3x3 2p/1NP/kPK w - - 0 1", "3x3 KRB/PP1/bk1 w - - 0 1", "3x4 BKR/PPP/3/nkr w - - 0 1", "3x4 BBB/PPP/PP1/KPk w - - 0 1", "3x6 QKB/PPP/n2/Ppk/1pp/3 w - - 0 1", "8x8 BBBBBBKB/PPPPPPPP/8/8/8/8/8/4k3 w - - 0 1",
		"3x3 kp1/pn1/K2 b - - 0 1", "3x5 1K1/3/QPP/ppp/qkr b - - 0 1",
	} {
		for _, p := range []api.Position{known(t, text), mirrored(known(t, text))} {
			checkAll(t, p, map[string]int{})
			l, e := pseudo.Moves(p)
			if len(l) != 0 || e != api.OK {
				t.Error(textOf(p), l, e)
			}
		}
	}
}

// The numbers of lines of legal moves that are known of well-known positions: each is a line of pseudo-legal moves, of which Make forbids no other.
func TestCounts(t *testing.T) {
	for _, c := range []struct {
		text  string
		depth int
		want  int
	}{
		{usual, 1, 20}, {usual, 2, 400}, {usual, 3, 8902},
		{"8x8 r3k2r/p1ppqpb1/bn2pnp1/3PN3/1p2P3/2N2Q1p/PPPBBPPP/R3K2R w KQkq - 0 1", 1, 48}, {"8x8 r3k2r/p1ppqpb1/bn2pnp1/3PN3/1p2P3/2N2Q1p/PPPBBPPP/R3K2R w KQkq - 0 1", 3, 97862},
		{"8x8 8/2p5/3p4/KP5r/1R3p1k/8/4P1P1/8 w - - 0 1", 4, 43238},
		{"8x8 r3k2r/Pppp1ppp/1b3nbN/nP6/BBP1P3/q4N2/Pp1P2PP/R2Q1RK1 w kq - 0 1", 3, 9467},
		{"8x8 rnbq1k1r/pp1Pbppp/2p5/8/2B5/8/PPP1NnPP/RNBQK2R w KQ - 1 8", 3, 62379},
		{"3x3 k2/3/2K w - - 0 1", 1, 2}, {"3x3 k2/3/2K w - - 0 1", 2, 2}, {"3x3 k2/3/2K w - - 0 1", 3, 4},
		{"4x4 1k2/1r2/1R2/1K2 w - - 0 1", 1, 5},
	} {
		for _, p := range []api.Position{known(t, c.text), mirrored(known(t, c.text))} {
			if n := count(t, p, c.depth); n != c.want {
				t.Error(textOf(p), c.depth, n, "want", c.want)
			}
		}
	}
}

// count returns the number of lines of some moves.
func count(t *testing.T, p api.Position, depth int) int {
	t.Helper()
	if depth == 0 {
		return 1
	}
	l, e := pseudo.Moves(p)
	if e != api.OK {
		t.Fatal(textOf(p), e)
	}
	n := 0
	for _, m := range l {
		q, _, e := making.Make(p, m)
		if e == making.ErrKing {
			continue
		}
		if e != api.OK {
			t.Fatal(textOf(p), m, e)
		}
		n += count(t, q, depth-1)
	}
	return n
}

// Errors

// changes has changes after which no position is valid.
func changes() []func(*api.Position) {
	return []func(*api.Position){
		func(p *api.Position) { p.Half = -1 },
		func(p *api.Position) { p.Half = 10001 },
		func(p *api.Position) { p.Full = 0 },
		func(p *api.Position) { p.Full = 10001 },
		func(p *api.Position) { p.Castle |= 16 },
		func(p *api.Position) { p.Castle |= 128 },
		func(p *api.Position) { p.Passant = 0 },
		func(p *api.Position) { p.Passant = -2 },
		func(p *api.Position) { p.Passant = 65 },
		func(p *api.Position) { p.Size.Files = 2 },
		func(p *api.Position) { p.Size.Ranks = 9 },
		func(p *api.Position) { p.Size = api.Size{Files: p.Size.Ranks - 1, Ranks: p.Size.Files} },
		func(p *api.Position) { p.Size = api.Size{} },
		func(p *api.Position) { p.Pieces = nil },
		func(p *api.Position) { p.Pieces = p.Pieces[:len(p.Pieces)-1] },
		func(p *api.Position) { p.Pieces = append(p.Pieces, 0) },
		func(p *api.Position) { p.Pieces[slices.Index(p.Pieces, 6)] = 0 },
		func(p *api.Position) { p.Pieces[slices.Index(p.Pieces, -6)] = -5 },
		func(p *api.Position) { p.Pieces[slices.Index(p.Pieces, 0)] = 6 },
		func(p *api.Position) { p.Pieces[slices.Index(p.Pieces, 0)] = -7 },
		func(p *api.Position) { p.Pieces[slices.Index(p.Pieces, 0)] = 127 },
		func(p *api.Position) { p.Pieces[p.Size.Files-1] = -1 },
		func(p *api.Position) { p.Pieces[len(p.Pieces)-1] = 1 },
	}
}

// Each thing that may be wrong with a position is ErrArg, whatever the number or the move is.
func TestInvalidPositions(t *testing.T) {
	for _, text := range []string{"3x3 1k1/3/K2 w - - 0 1", "3x3 1k1/3/K2 b - - 0 1", "4x6 1k2/2p1/4/4/1P2/K3 w - - 3 4", corners} {
		p := known(t, text)
		for _, change := range changes() {
			q := changed(p, change)
			for at, m := range []api.Move{{}, {From: 0, To: 1}, {From: 0, To: 2}, {From: 4, To: 6}, {From: 7, To: 4}, {From: 100, To: 200, Promote: 7}} {
				checkInvalid(t, q, at*at*at-1, m)
			}
		}
	}
	checkInvalid(t, api.Position{}, 0, api.Move{})
}

// In no valid position a king could be captured by the side to move.
func TestKingCanBeCapturedAtOnce(t *testing.T) {
	for _, c := range []struct {
		p        api.Position
		from, to int
	}{
		{changed(known(t, "3x3 kR1/3/2K b - - 0 1"), func(p *api.Position) { p.Black = false }), 7, 6},
		{changed(known(t, "3x3 k2/1P1/2K b - - 0 1"), func(p *api.Position) { p.Black = false }), 4, 6},
		{changed(known(t, "8x8 4k3/8/8/8/8/8/8/r3K2R w K - 0 1"), func(p *api.Position) { p.Black = true }), 0, 4},
		{changed(known(t, "3x3 k2/3/2K w - - 0 1"), func(p *api.Position) { p.Pieces[4], p.Pieces[6] = -6, 0 }), 2, 4},
	} {
		checkInvalid(t, c.p, c.from, api.Move{From: c.from, To: c.to})
	}
}

// numbers are at, beside and far beyond the numbers of squares; some are within them if only their last bits are looked at.
var numbers = []int{math.MinInt, math.MinInt + 1, -1 << 32, -1<<32 + 1, math.MinInt32, -65536, -257, -256, -255, -64, -9, -2, -1, 0, 1, 2, 7, 8, 9, 11, 12, 16, 20, 44, 60, 62, 63, 64, 65, 127, 128, 255, 256, 257, 10001, 65536, math.MaxInt32, 1 << 32, 1<<32 + 1, math.MaxInt - 1, math.MaxInt}

// Each number is tried as that of a square.
func TestFromNumbers(t *testing.T) {
	for _, s := range sizes() {
		for _, p := range samples(s, 3) {
			for _, at := range numbers {
				if 0 <= at && at < len(p.Pieces) {
					continue
				}
				if l, e := pseudo.From(p, at); len(l) != 0 || e != api.ErrArg {
					t.Error(textOf(p), at, l, e)
				}
			}
			for at := -70; at < 140; at++ {
				if l, e := pseudo.From(p, at); (0 <= at && at < len(p.Pieces)) != (e == api.OK) || e != api.OK && (len(l) != 0 || e != api.ErrArg) {
					t.Error(textOf(p), at, l, e)
				}
			}
		}
	}
}

// Each number is tried for each part of a move.
func TestMoveNumbers(t *testing.T) {
	check := func(p api.Position, m api.Move) {
		if move.Valid(p.Size, m) {
			checkMove(t, p, m)
		} else {
			checkArg(t, p, m)
		}
	}
	for _, s := range sizes() {
		for _, p := range samples(s, 3) {
			for _, n := range numbers {
				for _, m := range append(possibleAll(p), api.Move{}) {
					check(p, api.Move{From: n, To: m.To, Promote: m.Promote})
					check(p, api.Move{From: m.From, To: n, Promote: m.Promote})
					check(p, api.Move{From: m.From, To: m.To, Promote: api.Piece(n)})
				}
				check(p, api.Move{From: n, To: n})
				check(p, api.Move{From: n, To: n, Promote: api.Piece(n)})
			}
		}
	}
}

// A move that is not valid is ErrArg even if there is no own piece on From, or the piece does not go there.
func TestErrorOrder(t *testing.T) {
	p := known(t, "3x3 k2/3/2K w - - 0 1")
	for _, m := range []api.Move{{}, {From: 2, To: 2}, {From: 2, To: 9}, {From: 2, To: -1}, {From: 9, To: 1}, {From: -1, To: 1}, {From: 6, To: 6}, {From: 6, To: 9}, {From: 4, To: -4}, {From: 2, To: 1, Promote: 1}, {From: 2, To: 1, Promote: 6}, {From: 2, To: 1, Promote: -5}, {From: 2, To: 8, Promote: 7}} {
		checkArg(t, p, m)
	}
	for _, m := range []api.Move{{From: 6, To: 3}, {From: 4, To: 3}, {From: 2, To: 0}, {From: 2, To: 8}, {From: 2, To: 1, Promote: 5}, {From: 2, To: 1, Promote: 2}} {
		checkResults(t, p, m, false, api.OK, api.ErrCheck, 0, 0, false)
	}
}

// P9.4

// What layer 8 says of all valid moves agrees, and no king is captured.
func TestConsequences(t *testing.T) {
	t.Parallel()
	counts := map[api.Errno]int{}
	for _, s := range sizes() {
		for _, p := range samples(s, 5) {
			var together []api.Move
			for from := range p.Pieces {
				l, _ := pseudo.From(p, from)
				together = append(together, l...)
				for _, m := range valid(p, from) {
					counts[checkWithMake(t, p, m, l)]++
				}
			}
			all, e := pseudo.Moves(p)
			if !slices.Equal(all, together) || e != api.OK {
				t.Fatal(textOf(p), all, e, "want", together)
			}
			for i := range all {
				if i > 0 && move.Compare(all[i-1], all[i]) != -1 {
					t.Fatal(textOf(p), all, "is not in order at", i)
				}
			}
		}
	}
	for _, e := range []api.Errno{api.OK, api.ErrNone, api.ErrCheck, making.ErrKing, api.ErrFull} {
		if counts[e] < 50 {
			t.Error("only", counts[e], e)
		}
	}
}

// checkWithMake compares what is told of a move, and whether it is in the list of those from its square, with what Make says, whose error it returns.
func checkWithMake(t *testing.T, p api.Position, m api.Move, l []api.Move) api.Errno {
	t.Helper()
	_, u, e := making.Make(p, m)
	is, isE := pseudo.Is(p, m)
	piece, at, capturedE := pseudo.Captured(p, m)
	if want := e == api.OK || e == making.ErrKing || e == api.ErrFull; is != want || isE != api.OK || slices.Contains(l, m) != want {
		t.Fatal(textOf(p), m, is, isE, l, "but Make:", e)
	}
	if is && (capturedE != api.OK || abs(int(piece)) == 6 || int(piece)*side(p) > 0 || piece == 0 != (at == -1)) {
		t.Fatal(textOf(p), m, piece, at, capturedE)
	}
	if e == api.OK && (piece != u.Captured || at != u.At) {
		t.Fatal(textOf(p), m, piece, at, "want", u)
	}
	return e
}

// DOC.md: memory, calls again, and all arguments

// No result shares memory with another one or with an argument, even if the argument's slice could hold more.
func TestMemory(t *testing.T) {
	p := known(t, usual)
	roomy := append(make([]api.Piece, 0, 200), p.Pieces...)
	p.Pieces = roomy
	moves, _ := pseudo.Moves(p)
	want := slices.Clone(moves)
	from, _ := pseudo.From(p, 1)
	fromWant := slices.Clone(from)
	clear(moves[:cap(moves)])
	if !slices.Equal(from, fromWant) {
		t.Error("From shares memory with Moves")
	}
	clear(from[:cap(from)])
	moves, _ = pseudo.Moves(p)
	from, _ = pseudo.From(p, 1)
	if !slices.Equal(moves, want) || !slices.Equal(from, fromWant) {
		t.Error(moves, from)
	}
	if textOf(p) != usual || slices.ContainsFunc(roomy[64:200], func(x api.Piece) bool { return x != 0 }) {
		t.Error(textOf(p), roomy[:200])
	}
	clear(roomy)
	if !slices.Equal(moves, want) || !slices.Equal(from, fromWant) {
		t.Error("a result depends on the argument afterwards")
	}
}

// The same calls have the same results, whatever was called between them.
func TestCallsAgain(t *testing.T) {
	for range 2 {
		for _, s := range sizes() {
			for _, p := range samples(s, 2) {
				checkOwn(t, p, map[string]int{})
				checkInvalid(t, changed(p, func(q *api.Position) { q.Full = 0 }), 0, api.Move{From: 0, To: 1})
			}
		}
	}
}

// badSizes are sizes that are not valid; the number of squares of some of them is that of a valid one, or overflows to it.
var badSizes = []api.Size{{}, {Files: 2, Ranks: 3}, {Files: 3, Ranks: 2}, {Files: 6, Ranks: 2}, {Files: 9, Ranks: 3}, {Files: 3, Ranks: 9}, {Files: 1, Ranks: 9}, {Files: 0, Ranks: 8}, {Files: -3, Ranks: -3}, {Files: 16, Ranks: 4}, {Files: 1<<62 + 3, Ranks: 4}, {Files: math.MaxInt, Ranks: math.MaxInt}, {Files: math.MinInt, Ranks: math.MinInt}}

// P1 of DOC.md: whatever the arguments are, each function returns, and with an error everything else is zero.
func TestAnyArguments(t *testing.T) {
	for i, n := range numbers {
		pieces := make([]api.Piece, 65*(i%2)+i)
		for at := range pieces {
			pieces[at] = api.Piece(at*i + n)
		}
		for j, s := range append(append(sizes(), badSizes...), api.Size{Files: n, Ranks: n}, api.Size{Files: 8, Ranks: n}, api.Size{Files: n, Ranks: 8}) {
			m := api.Move{From: n, To: j, Promote: api.Piece(j % 7)}
			p := api.Position{Size: s, Pieces: pieces, Black: j%2 == 0, Castle: uint8(n), Passant: n, Half: n, Full: n}
			checkInvalid(t, p, n, m)
			p.Passant, p.Half, p.Full, p.Castle = -1, 0, 1, 15
			checkInvalid(t, p, j, m)
			p.Pieces, p.Castle = pieces[:min(len(pieces), 9)], 0
			checkInvalid(t, p, 0, api.Move{From: j % 9, To: n})
		}
	}
}
