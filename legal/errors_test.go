package legal_test

import (
	"math"
	"slices"
	"testing"

	"caissa/api"
	"caissa/legal"
	"caissa/move"
	"caissa/position"
)

// Invalid arguments, for all functions.

// numbers are at, beside and far beyond those of squares; some are among them if only their last bits are looked at.
var numbers = []int{math.MinInt, math.MinInt + 1, -1 << 32, math.MinInt32, -65536, -256, -255, -64, -9, -1, 0, 1, 2, 8, 9, 11, 12, 16, 36, 60, 63, 64, 65, 128, 255, 256, 257, 10001, 65536, math.MaxInt32, 1 << 32, 1<<32 + 1, math.MaxInt - 1, math.MaxInt}

// changes returns changes after which no position is valid.
func changes() []func(*api.Position) {
	index := slices.Index[[]api.Piece]
	return []func(*api.Position){
		func(p *api.Position) { p.Size = api.Size{} },
		func(p *api.Position) { p.Size.Files = 9 },
		func(p *api.Position) { p.Size.Ranks = 2 },
		func(p *api.Position) { p.Size.Ranks = -p.Size.Ranks },
		func(p *api.Position) { p.Pieces = nil },
		func(p *api.Position) { p.Pieces = p.Pieces[1:] },
		func(p *api.Position) { p.Pieces = append(p.Pieces, 0) },
		func(p *api.Position) { p.Pieces[index(p.Pieces, 0)] = 7 },
		func(p *api.Position) { p.Pieces[index(p.Pieces, 0)] = -128 },
		func(p *api.Position) { p.Pieces[index(p.Pieces, 0)] = api.King },
		func(p *api.Position) { p.Pieces[index(p.Pieces, 0)] = -api.King },
		func(p *api.Position) { p.Pieces[index(p.Pieces, api.King)] = 0 },
		func(p *api.Position) { p.Pieces[index(p.Pieces, -api.King)] = -api.Queen },
		func(p *api.Position) { p.Pieces[p.Size.Files-1] = -api.Pawn },
		func(p *api.Position) { p.Pieces[len(p.Pieces)-1] = api.Pawn },
		func(p *api.Position) { p.Castle |= 16 },
		func(p *api.Position) { p.Castle |= 192 },
		func(p *api.Position) { p.Passant = 0 },
		func(p *api.Position) { p.Passant = -2 },
		func(p *api.Position) { p.Passant = math.MaxInt },
		func(p *api.Position) { p.Half = -1 },
		func(p *api.Position) { p.Half = 10001 },
		func(p *api.Position) { p.Full = 0 },
		func(p *api.Position) { p.Full = 10001 },
	}
}

// Each thing that may be wrong with a position is ErrArg, whatever the square or the move is.
func TestInvalidPositions(t *testing.T) {
	for _, text := range []string{"3x3 1k1/3/K2 w - - 0 1", "3x3 1k1/3/K2 b - - 0 1", "4x6 1k2/2p1/4/4/1P2/K3 w - - 3 4", corners} {
		p := known(t, text)
		for _, change := range changes() {
			q := changed(p, change)
			for i, m := range []api.Move{{}, {From: 0, To: 1}, {From: 1, To: 0}, {From: 4, To: 6}, {From: 7, To: 4, Promote: 5}, {From: -1, To: 100, Promote: 9}} {
				checkInvalid(t, q, i*i*i-1, m)
			}
		}
	}
	checkInvalid(t, api.Position{}, 0, api.Move{})
}

// In no valid position the side to move captures a king.
func TestKingCouldBeCapturedAtOnce(t *testing.T) {
	for _, c := range []struct {
		text     string
		from, to int
	}{
		{"3x3 kR1/3/2K b - - 0 1", 7, 6}, {"3x3 k2/1P1/2K b - - 0 1", 4, 6}, {"3x3 k2/2N/K2 b - - 0 1", 5, 6}, {"8x8 4k3/8/8/8/8/8/8/r3K2R w K - 0 1", 0, 4},
	} {
		p := known(t, c.text)
		checkPosition(t, p)
		p.Black = !p.Black
		checkInvalid(t, p, c.from, api.Move{From: c.from, To: c.to})
	}
}

// Each number is tried as that of a square.
func TestSquareNumbers(t *testing.T) {
	for _, s := range sizes() {
		for _, p := range samples(s, 3) {
			for _, at := range append(numbers, len(p.Pieces), len(p.Pieces)-1) {
				if 0 <= at && at < len(p.Pieces) {
					checkTargets(t, p, at, legalFrom(p, at))
				} else if set, e := legal.Targets(p, at); set != 0 || e != api.ErrArg {
					t.Error(textOf(p), at, set, e)
				}
			}
		}
	}
}

// Each number is tried as each part of a move.
func TestMoveNumbers(t *testing.T) {
	for _, s := range sizes() {
		for _, p := range samples(s, 3) {
			l, _ := legal.Moves(p)
			for _, n := range numbers {
				for _, m := range append(l, api.Move{}) {
					for _, wrong := range []api.Move{{From: n, To: m.To, Promote: m.Promote}, {From: m.From, To: n, Promote: m.Promote}, {From: m.From, To: m.To, Promote: api.Piece(n)}, {From: n, To: n}} {
						if move.Valid(p.Size, wrong) {
							checkIs(t, p, wrong, slices.Contains(l, wrong), api.OK)
						} else {
							checkIs(t, p, wrong, false, api.ErrArg)
						}
					}
				}
			}
		}
	}
}

// A move that is not valid is ErrArg even if there is no own piece on From; a valid one that is not legal is none.
func TestMovesThatAreNotLegal(t *testing.T) {
	p := known(t, "3x3 k2/3/2K w - - 0 1")
	for _, m := range []api.Move{{}, {From: 2, To: 2}, {From: 2, To: 9}, {From: 2, To: -1}, {From: 9, To: 1}, {From: -1, To: 1}, {From: 6, To: 6}, {From: 4, To: 9}, {From: 2, To: 1, Promote: 1}, {From: 2, To: 1, Promote: 6}, {From: 2, To: 1, Promote: -5}, {From: 6, To: 3, Promote: 7}} {
		checkIs(t, p, m, false, api.ErrArg)
	}
	for _, m := range []api.Move{{From: 6, To: 3}, {From: 4, To: 3}, {From: 2, To: 0}, {From: 2, To: 4}, {From: 2, To: 8}, {From: 2, To: 1, Promote: 5}, {From: 5, To: 2, Promote: 2}} {
		checkIs(t, p, m, false, api.OK)
	}
	checkIs(t, p, api.Move{From: 2, To: 1}, true, api.OK)
}

// P1 of DOC.md: whatever the arguments are, each function returns, and with an error everything else is zero.
func TestAnyArguments(t *testing.T) {
	bad := []api.Size{{}, {Files: 2, Ranks: 3}, {Files: 6, Ranks: 2}, {Files: 9, Ranks: 3}, {Files: -3, Ranks: -3}, {Files: 16, Ranks: 4}, {Files: 1<<62 + 3, Ranks: 4}, {Files: math.MaxInt, Ranks: math.MaxInt}, {Files: math.MinInt, Ranks: math.MinInt}}
	for i, n := range numbers {
		pieces := make([]api.Piece, 64*(i%2)+i)
		for at := range pieces {
			pieces[at] = api.Piece(at*i + n)
		}
		for j, s := range append(append(sizes(), bad...), api.Size{Files: n, Ranks: n}, api.Size{Files: 8, Ranks: n}, api.Size{Files: n, Ranks: 8}) {
			p := api.Position{Size: s, Pieces: pieces, Black: j%2 == 0, Castle: uint8(n), Passant: n, Half: n, Full: n}
			if position.Valid(p) {
				t.Fatal(p)
			}
			checkInvalid(t, p, n, api.Move{From: n, To: j, Promote: api.Piece(j % 7)})
			p.Castle, p.Passant, p.Half, p.Full = 15, -1, 0, 1
			checkInvalid(t, p, j, api.Move{From: j, To: n})
			p.Castle, p.Pieces = 0, pieces[:min(len(pieces), 9)]
			checkInvalid(t, p, 0, api.Move{From: j % 9, To: 1})
		}
	}
}
