package legal_test

import (
	"iter"
	"slices"
	"testing"

	"caissa/api"
	"caissa/legal"
	"caissa/move"
	"caissa/position"
)

const (
	usual   = "8x8 rnbqkbnr/pppppppp/8/8/8/8/PPPPPPPP/RNBQKBNR w KQkq - 0 1"
	corners = "8x8 r3k2r/8/8/8/8/8/8/R3K2R w KQkq - 3 9"
)

// tally counts what has been met, so that a test can tell whether it has met enough.
type tally map[string]int

// expect checks that each of some things was met often enough.
func (n tally) expect(t *testing.T, least int, things ...string) {
	t.Helper()
	for _, thing := range things {
		if n[thing] < least {
			t.Error("only", n[thing], "times:", thing)
		}
	}
}

// Checks of the functions against the definitions

// checkPosition checks all functions but Is for a valid position, and returns its legal moves.
func checkPosition(t *testing.T, p api.Position) []api.Move {
	t.Helper()
	before := copied(p)
	var all []api.Move
	for at := range p.Pieces {
		l := legalFrom(p, at)
		checkTargets(t, p, at, l)
		all = append(all, l...)
	}
	if l, e := legal.Moves(p); !slices.Equal(l, all) || e != api.OK {
		t.Fatal("Moves", textOf(p), lineOf(p, l), e, "want", lineOf(p, all))
	}
	if any, e := legal.Any(p); any != (len(all) > 0) || e != api.OK {
		t.Fatal("Any", textOf(p), any, e, "want", lineOf(p, all))
	}
	checkAfter(t, p, all)
	if !same(p, before) {
		t.Fatal(textOf(before), "has become", textOf(p))
	}
	return all
}

// checkTargets checks Targets for a square, from which there are some legal moves.
func checkTargets(t *testing.T, p api.Position, at int, l []api.Move) {
	t.Helper()
	var want api.Squares
	for _, m := range l {
		want |= 1 << m.To
	}
	if set, e := legal.Targets(p, at); set != want || e != api.OK {
		t.Fatal("Targets", textOf(p), at, set, e, "want", want)
	}
}

// checkAfter checks After for a position with some legal moves.
func checkAfter(t *testing.T, p api.Position, all []api.Move) {
	t.Helper()
	possible := slices.DeleteFunc(slices.Clone(all), func(m api.Move) bool { return full(after(p, m)) })
	checkPass(t, legal.After(p), p, possible)
}

// checkPass checks that an iterator goes over some legal moves of a position and the positions after them.
func checkPass(t *testing.T, iterator iter.Seq2[api.Move, api.Position], p api.Position, possible []api.Move) {
	t.Helper()
	var l []api.Move
	for m, q := range iterator {
		l = append(l, m)
		if want := after(p, m); !same(q, want) || !position.Valid(q) {
			t.Fatal("After", textOf(p), m, q, "want", want)
		}
	}
	if !slices.Equal(l, possible) {
		t.Fatal("After", textOf(p), lineOf(p, l), "want", lineOf(p, possible))
	}
}

// checkIs checks what Is returns.
func checkIs(t *testing.T, p api.Position, m api.Move, want bool, wantE api.Errno) {
	t.Helper()
	before := copied(p)
	if is, e := legal.Is(p, m); is != want || e != wantE || !same(p, before) {
		t.Fatal("Is", textOf(before), m, is, e, textOf(p), "want", want, wantE)
	}
}

// checkValidMoves checks Is for all valid moves of a position, of which some are legal.
func checkValidMoves(t *testing.T, p api.Position, all []api.Move) {
	t.Helper()
	for n := range len(p.Pieces) * len(p.Pieces) {
		for _, kind := range []api.Piece{0, 2, 3, 4, 5} {
			m := api.Move{From: n / len(p.Pieces), To: n % len(p.Pieces), Promote: kind}
			if m.From != m.To {
				checkIs(t, p, m, slices.Contains(all, m), api.OK)
			}
		}
	}
}

// checkPseudo checks Is for all pseudo-legal moves of a position, of which some are legal, and for much the same moves.
func checkPseudo(t *testing.T, p api.Position, all []api.Move) {
	t.Helper()
	for from := range p.Pieces {
		for _, m := range pseudoFrom(p, from) {
			for _, n := range []api.Move{m, {From: m.To, To: m.From}, {From: m.From, To: m.To, Promote: (m.Promote + 3) % 6}} {
				if move.Valid(p.Size, n) {
					checkIs(t, p, n, slices.Contains(all, n), api.OK)
				}
			}
		}
	}
}

// checkBoth checks everything for a position and its mirror image, and returns the legal moves of the position.
func checkBoth(t *testing.T, p api.Position) []api.Move {
	t.Helper()
	q := mirrored(p)
	l, image := checkPosition(t, p), checkPosition(t, q)
	checkPseudo(t, p, l)
	checkPseudo(t, q, image)
	if !slices.Equal(mirroredMoves(p.Size, l), image) {
		t.Fatal(textOf(p), lineOf(p, l), "mirrored:", lineOf(q, image))
	}
	return l
}

// checkInvalid checks that all functions refuse a position, with a square and a move.
func checkInvalid(t *testing.T, p api.Position, at int, m api.Move) {
	t.Helper()
	before := copied(p)
	if l, e := legal.Moves(p); len(l) != 0 || e != api.ErrArg {
		t.Fatal("Moves", p, l, e)
	}
	if any, e := legal.Any(p); any || e != api.ErrArg {
		t.Fatal("Any", p, any, e)
	}
	for m := range legal.After(p) {
		t.Fatal("After", p, m)
	}
	if set, e := legal.Targets(p, at); set != 0 || e != api.ErrArg {
		t.Fatal("Targets", p, at, set, e)
	}
	checkIs(t, p, m, false, api.ErrArg)
	if !same(p, before) {
		t.Fatal(before, "has become", p)
	}
}

// P10.1, P10.2 and P10.3

// listing is a position with the moves that it has, and some others that are pseudo-legal, but not legal.
type listing struct{ position, legal, not string }

// checkListings checks which moves some positions have, also with the colours exchanged.
func checkListings(t *testing.T, l ...listing) {
	t.Helper()
	for _, c := range l {
		p := known(t, c.position)
		got := checkBoth(t, p)
		if lineOf(p, got) != c.legal {
			t.Error(c.position, lineOf(p, got), "want", c.legal)
		}
		for _, m := range moves(t, p, c.not) {
			if !slices.Contains(pseudoFrom(p, m.From), m) {
				t.Error(c.position, m, "is not even pseudo-legal")
			}
			checkIs(t, p, m, false, api.OK)
		}
	}
}

func TestExamples(t *testing.T) {
	checkListings(t,
		listing{usual, "b1a3 b1c3 g1f3 g1h3 a2a3 a2a4 b2b3 b2b4 c2c3 c2c4 d2d3 d2d4 e2e3 e2e4 f2f3 f2f4 g2g3 g2g4 h2h3 h2h4", ""},
		listing{"4x4 1k2/1r2/1R2/1K2 w - - 0 1", "b1a1 b1c1 b1a2 b1c2 b2b3", "b2a2 b2c2 b2d2"},
		listing{"3x3 kQ1/3/K2 b - - 0 1", "a3b3", "a3a2 a3b2"},
		listing{"3x3 k2/1Q1/K2 b - - 0 1", "", "a3a2 a3b3 a3b2"},
		listing{"3x3 k2/2Q/1K1 b - - 0 1", "", "a3a2 a3b3 a3b2"},
		listing{"3x3 k2/3/2K w - - 0 1", "c1b1 c1c2", "c1b2"},
	)
	p := known(t, "4x4 1k2/1r2/1R2/1K2 w - - 0 1")
	if set, e := legal.Targets(p, 5); set != 1<<9 || e != api.OK {
		t.Error(set, e)
	}
}

// A side is in check by one piece: it is captured, something goes between, or the king moves.
func TestOneCheck(t *testing.T) {
	checkListings(t,
		listing{"4x4 k2r/1N2/4/2BK w - - 0 1", "c1d2 d1c2 b3d2 b3d4", "d1d2 c1b2 c1a3 b3a1"},
		listing{"5x5 k3b/5/5/3R1/K4 w - - 0 1", "a1b1 a1a2 d2b2 d2d4", "a1b2 d2d1 d2a2 d2c2 d2e2 d2d3 d2d5"},
		listing{"5x5 k4/5/5/1N1R1/K3q w - - 0 1", "a1a2 b2d1 d2d1", "a1b1 b2d3 b2a4 b2c4 d2c2 d2e2 d2d3"},
		// nothing goes between a knight or a pawn and the king
		listing{"5x5 4k/5/1n3/R1B2/K4 w - - 0 1", "a1b1 a1b2 c2b3", "a2a5 a2b2 c2b1 c2d3"},
		listing{"4x4 1k2/4/1p1R/K3 w - - 0 1", "a1b1 a1a2 a1b2 d2b2", "d2d4 d2d1"},
		// the pawn that gives check is captured on the square behind it, by one pawn or the other
		listing{"5x6 4k/5/5/1pP2/2K2/5 w - b4 0 1", "c2b1 c2c1 c2d1 c2b2 c2d2 c2b3 c2d3 c3b4", "c3c4"},
		listing{"5x6 4k/5/5/PpP2/2K2/5 w - b4 0 1", "c2b1 c2c1 c2d1 c2b2 c2d2 c2b3 c2d3 a3b4 c3b4", "a3a4 c3c4"},
		listing{"5x6 4k/5/5/1pP2/2K2/5 w - - 0 1", "c2b1 c2c1 c2d1 c2b2 c2d2 c2b3 c2d3", "c3c4"},
		listing{"3x6 2Q/P2/3/kpP/2K/r2 w - b4 0 1", "c3b4", "a5a6Q c2b1 c2c1 c2b2 c2b3 c3c4 c6a6"},
		// another piece gives check, and still does when the pawn is captured
		listing{"3x6 2b/3/K2/1pP/3/2k w - b4 0 1", "a4a3 a4b3 a4b4 a4a5", "c3b4 c3c4 a4b5"},
		// a promotion captures the piece that gives check, or goes between
		listing{"4x4 r2k/1P2/4/K3 w - - 0 1", "a1b1 a1b2 b3a4N b3a4B b3a4R b3a4Q", "a1a2 b3b4N b3b4B b3b4R b3b4Q"},
		listing{"4x4 K2r/2P1/4/3k w - - 0 1", "c3c4N c3c4B c3c4R c3c4Q c3d4N c3d4B c3d4R c3d4Q a4a3 a4b3", "a4b4"},
		listing{"4x4 1rnk/K2P/1r2/4 w - - 0 1", "d3c4N d3c4B d3c4R d3c4Q", "a3a2 a3a4 a3b2 a3b3 a3b4"},
	)
}

// A side is in check by two pieces: only its king moves, whatever else would capture one of them or go between.
func TestTwoChecks(t *testing.T) {
	checkListings(t,
		listing{"4x4 k3/3B/3r/r2K w - - 0 1", "d1d2", "d1c1 d1c2 d3b1 d3c2"},
		listing{"5x5 4k/5/2n2/5/KR1r1 w - - 0 1", "a1b2 b1c1 b1d1", "a1a2 b1b2 b1b5"},
		listing{"5x5 4k/5/1n3/N1B2/K3r w - - 0 1", "a1b2", "a1b1 a2c1 c2b1 c2b3 c2d1"},
		listing{"5x6 4k/b4/5/1pP2/2K1r/5 w - b4 0 1", "c2b1 c2c1 c2d1 c2b3 c2d3", "c2b2 c2d2 c3b4 c3c4"},
		listing{"8x8 4k3/8/8/8/8/5n2/8/R3K2r w Q - 0 1", "e1e2 e1f2", "e1d1 e1f1 e1d2 e1c1 a1d1"},
	)
}

// A pinned piece goes along its pin line only, to the piece at the end of it, too.
func TestPinned(t *testing.T) {
	checkListings(t,
		listing{"5x5 k3q/5/5/4N/4K w - - 0 1", "e1d1 e1d2", "e2c1 e2c3 e2d4"},
		listing{"5x5 k3q/5/5/4B/4K w - - 0 1", "e1d1 e1d2", "e2d1 e2d3 e2c4 e2b5"},
		listing{"5x5 k3q/5/5/4R/4K w - - 0 1", "e1d1 e1d2 e2e3 e2e4 e2e5", "e2a2 e2b2 e2c2 e2d2"},
		listing{"5x5 k3q/5/5/4Q/4K w - - 0 1", "e1d1 e1d2 e2e3 e2e4 e2e5", "e2d1 e2a2 e2d3 e2b5"},
		listing{"5x5 k3q/5/3b1/4P/4K w - - 0 1", "e1d1 e1d2 e2e3", "e2d3"},
		listing{"5x5 k4/4b/3B1/2K2/5 w - - 0 1", "c2b1 c2c1 c2d1 c2b2 c2d2 c2b3 c2c3 d3e4", "d3e2 d3c4 d3b5"},
		listing{"5x5 k4/4b/3Q1/2K2/5 w - - 0 1", "c2b1 c2c1 c2d1 c2b2 c2d2 c2b3 c2c3 d3e4", "d3d1 d3e2 d3a3 d3e3 d3b5 d3d5"},
		listing{"5x5 k4/4b/3R1/2K2/5 w - - 0 1", "c2b1 c2c1 c2d1 c2b2 c2d2 c2b3 c2c3", "d3d1 d3a3 d3e3 d3d5"},
		listing{"5x5 4k/b4/1P3/2K2/5 w - - 0 1", "c2b1 c2c1 c2d1 c2b2 c2d2 c2c3 c2d3 b3a4", "b3b4"},
		listing{"5x5 2k2/5/KR1r1/5/5 w - - 0 1", "a3a2 a3b2 a3a4 b3c3 b3d3", "a3b4 b3b1 b3b5"},
		// a promotion on the pin line and beside it, and a pin by two pieces, which is none
		listing{"5x5 b3k/1P3/5/5/4K w - - 0 1", "e1d1 e1d2 e1e2 b4a5N b4a5B b4a5R b4a5Q", "b4b5N b4b5B b4b5R b4b5Q"},
		listing{"5x5 4k/KP2r/5/5/5 w - - 0 1", "a4a3 a4b3 a4a5 a4b5", "b4b5N b4b5B b4b5R b4b5Q"},
		listing{"5x5 2k2/5/KRnr1/5/5 w - - 0 1", "a3b2 b3b1 b3b2 b3c3 b3b4 b3b5", "a3a2 a3a4 a3b4"},
	)
}

// A pawn captures on the square Passant, by which a line to its king opens, on its own square or that of the captured pawn, or none.
func TestPassant(t *testing.T) {
	checkListings(t,
		listing{"4x6 4/4/RPpk/4/4/K3 b - b3 0 1", "c4c3 d4c3 d4d3 d4d5", "c4b3 d4c5"},
		listing{"5x6 4k/5/5/KPp1r/5/5 w - c4 0 1", "a3a2 a3a4 a3b4 b3b4", "a3b2 b3c4"},
		listing{"5x6 4k/5/5/KPp1b/5/5 w - c4 0 1", "a3a2 a3a4 a3b4 b3b4 b3c4", "a3b2"},
		listing{"5x6 4k/5/5/KPpPr/5/5 w - c4 0 1", "a3a2 a3a4 a3b4 b3b4 b3c4 d3c4 d3d4", "a3b2"},
		listing{"5x6 2r1k/5/5/1pP2/5/2K2 w - b4 0 1", "c1b1 c1d1 c1b2 c1d2 c3c4", "c1c2 c3b4"},
		listing{"5x6 4k/5/b4/1pP2/5/3K1 w - b4 0 1", "d1c1 d1e1 d1d2 d1e2 c3c4", "d1c2 c3b4"},
		listing{"5x6 4k/b4/5/1pP2/3K1/5 w - b4 0 1", "d2c1 d2d1 d2e1 d2e2 d2d3 d2e3 c3b4", "d2c2 c3c4"},
		listing{"5x6 1r2k/5/5/1pP2/5/1K3 w - b4 0 1", "b1a1 b1c1 b1b2 c3b4 c3c4", "b1a2 b1c2"},
		// it is the only move
		listing{"3x6 2K/3/1q1/pP1/3/1k1 w - a4 0 1", "b3a4", "c6b5 c6b6 c6c5"},
		listing{"3x6 r1r/1K1/BP1/1Pp/k2/3 w - c4 0 1", "b3c4", "b5b6 b5c4"},
	)
}

func TestPromotions(t *testing.T) {
	checkListings(t,
		listing{"3x3 2k/P2/2K w - - 5 7", "c1b1 a2a3N a2a3B a2a3R a2a3Q", "c1b2 c1c2"},
		listing{"3x4 q2/1P1/k2/2K w - - 0 1", "c1c2 b3a4N b3a4B b3a4R b3a4Q b3b4N b3b4B b3b4R b3b4Q", "c1b1 c1b2"},
		listing{"3x3 K1k/1p1/2Q b - - 0 1", "b2c1N b2c1B b2c1R b2c1Q", "c3b3 c3c2 b2b1N b2b1Q"},
		listing{"3x3 3/2P/k1K w - - 0 1", "c2c3N c2c3B c2c3R c2c3Q", "c1b1 c1b2"},
	)
	p := known(t, "3x4 q2/1P1/k2/2K w - - 0 1")
	if set, e := legal.Targets(p, 7); set != 1<<9|1<<10 || e != api.OK {
		t.Error(set, e)
	}
}

// Mates and stalemates have no legal moves, whatever the counters are.
func TestNoMoves(t *testing.T) {
	for _, text := range []string{
		"3x3 k2/1Q1/K2 b - - 0 1", "3x3 k2/2Q/1K1 b - - 0 1",
		"8x8 rnb1kbnr/pppp1ppp/8/4p3/6Pq/5P2/PPPPP2P/RNBQKBNR w KQkq - 1 3", "8x8 4k3/4Q3/4K3/8/8/8/8/8 b - - 0 1", "8x8 6rk/5Npp/8/8/8/8/8/K7 b - - 0 1",
		"8x8 5bnr/4p1pq/4Qpkr/7p/7P/4P3/PPPP1PP1/RNB1KBNR b KQ - 2 10", "8x8 8/8/8/8/8/5k2/5p2/5K2 w - - 0 1", "3x3 2p/1NP/kPK w - - 0 1",
	} {
		p := known(t, text)
		for _, counters := range [][2]int{{p.Half, p.Full}, {10000, 1}, {10000, 10000}, {0, 10000}} {
			q := changed(p, func(q *api.Position) { q.Half, q.Full = counters[0], counters[1] })
			if l := checkBoth(t, q); len(l) != 0 {
				t.Error(textOf(q), lineOf(q, l))
			}
		}
	}
}

// Castling in each of the four ways (Black's as mirror images): the king is not in check, and the squares over which and to which it goes are not attacked; whether the rook is attacked, or goes over an attacked square, does not matter.
func TestCastling(t *testing.T) {
	for _, c := range []struct {
		pieces      string
		short, long bool
	}{
		{"4k3/8/8/8/8/8/8/R3K2R", true, true},
		{"4k3/8/8/4r3/8/8/8/R3K2R", false, false}, {"4k3/8/8/8/8/5n2/8/R3K2R", false, false}, {"4k3/8/8/8/8/8/3p4/R3K2R", false, false},
		{"4kr2/8/8/8/8/8/8/R3K2R", false, true}, {"4k3/8/8/8/8/7n/8/R3K2R", false, true}, {"4k3/8/8/8/8/8/6p1/R3K2R", false, true}, {"4k3/8/8/1b6/8/8/8/R3K2R", false, true},
		{"4k1r1/8/8/8/8/8/8/R3K2R", false, true}, {"4k3/8/8/8/8/8/7p/R3K2R", false, true}, {"4k3/8/8/8/8/4q3/8/R3K2R", false, false},
		{"3rk3/8/8/8/8/8/8/R3K2R", true, false}, {"4k3/8/8/8/8/1n6/8/R3K2R", true, false}, {"4k3/8/8/8/8/8/2p5/R3K2R", true, false}, {"4k3/8/8/7q/8/8/8/R3K2R", true, false},
		{"2r1k3/8/8/8/8/8/8/R3K2R", true, false}, {"4k3/8/8/8/8/8/1p6/R3K2R", true, false}, {"8/8/8/8/8/8/1k6/R3K2R", true, false}, {"4k3/8/8/8/8/b7/8/R3K2R", true, false}, {"8/8/8/8/8/8/6k1/R3K2R", false, true},
		{"1r2k3/8/8/8/8/8/8/R3K2R", true, true}, {"r3k2r/8/8/8/8/8/8/R3K2R", true, true}, {"4k3/8/8/8/8/8/p7/R3K2R", true, true}, {"4k3/8/8/8/3b4/8/8/R3K2R", false, true}, {"4k3/8/8/8/4b3/8/8/R3K2R", true, true},
		{"4k3/8/8/8/8/8/8/R2bK2R", true, false}, {"4k3/8/8/8/8/8/8/RN2K1NR", false, false}, {"4k3/8/8/8/8/8/8/Rn2K2R", true, false}, {"4k3/8/8/8/8/8/4P3/R3K2R", true, true},
	} {
		p := known(t, "8x8 "+c.pieces+" w KQ - 0 1")
		for set := range 4 {
			q := changed(p, func(q *api.Position) { q.Castle = uint8(set) })
			l := checkBoth(t, q)
			short, long := slices.Contains(l, api.Move{From: 4, To: 6}), slices.Contains(l, api.Move{From: 4, To: 2})
			if short != (c.short && set&1 != 0) || long != (c.long && set&2 != 0) {
				t.Error(textOf(q), lineOf(q, l))
			}
		}
	}
}

// Castling with all rights, with no other piece and with each piece on each empty square.
func TestCastlingMixtures(t *testing.T) {
	t.Parallel()
	n := tally{}
	check := func(p api.Position) {
		l := checkPosition(t, p)
		for m, c := range castlings {
			checkIs(t, p, m, slices.Contains(l, m), api.OK)
			if !slices.Contains(pseudoFrom(p, m.From), m) {
				continue
			}
			if slices.Contains(l, m) {
				n["legal "+string('0'+rune(c.bit))]++
			} else {
				n["not "+string('0'+rune(c.bit))]++
			}
		}
	}
	for set := range 32 {
		p := changed(known(t, corners), func(p *api.Position) { p.Castle, p.Black = uint8(set/2), set%2 == 1 })
		check(p)
		for i := range 10 * 64 {
			at, piece := i/10, [...]api.Piece{-5, -4, -3, -2, -1, 1, 2, 3, 4, 5}[i%10]
			q := changed(p, func(q *api.Position) { q.Pieces[at] = piece })
			if p.Pieces[at] == 0 && position.Valid(q) {
				check(q)
			}
		}
	}
	n.expect(t, 100, "legal 1", "legal 2", "legal 4", "legal 8", "not 1", "not 2", "not 4", "not 8")
}

// On small boards there are two kings and a piece on all squares.
func TestThreePieces(t *testing.T) {
	t.Parallel()
	n := tally{}
	for _, s := range []api.Size{{Files: 3, Ranks: 3}, {Files: 3, Ranks: 4}, {Files: 4, Ranks: 3}, {Files: 3, Ranks: 6}} {
		count := s.Files * s.Ranks
		for i := range count * count * count * 20 {
			p := bare(s, i%2 == 1)
			place(&p, i/2%10, i/20%count)
			p.Pieces[i/20/count%count], p.Pieces[i/20/count/count] = api.King, -api.King
			if position.Valid(p) {
				n.add(p, checkPosition(t, p))
			}
		}
	}
	n.expect(t, 20, "moves, checks: 0", "moves, checks: 1", "none, checks: 0", "none, checks: 1")
}

// On a board of 3 times 3 squares there are two kings and two pieces on all squares, of which each few positions one is tried.
func TestFourPieces(t *testing.T) {
	t.Parallel()
	n := tally{}
	s := api.Size{Files: 3, Ranks: 3}
	for i := 0; i < 9*9*9*9*100*2; i += 7 {
		p := bare(s, i%2 == 1)
		place(&p, i/2%10, i/200%9)
		place(&p, i/20%10, i/1800%9)
		p.Pieces[i/16200%9], p.Pieces[i/145800] = api.King, -api.King
		if position.Valid(p) {
			n.add(p, checkPosition(t, p))
		}
	}
	n.expect(t, 20, "moves, checks: 0", "moves, checks: 1", "moves, checks: 2", "none, checks: 0", "none, checks: 1", "none, checks: 2")
}

// place puts one of ten pieces on a square.
func place(p *api.Position, n, at int) {
	p.Pieces[at] = [...]api.Piece{-5, -4, -3, -2, -1, 1, 2, 3, 4, 5}[n]
}

// add counts whether a position has legal moves, and how many checks there are.
func (n tally) add(p api.Position, l []api.Move) {
	word := "moves"
	if len(l) == 0 {
		word = "none"
	}
	n[word+", checks: "+string('0'+rune(len(checkers(p, p.Black))))]++
}

// Mixtures of pieces on boards of all sizes, with either side to move.
func TestMixtures(t *testing.T) {
	t.Parallel()
	n := tally{}
	for _, s := range sizes() {
		for i, p := range samples(s, 120) {
			l := checkPosition(t, p)
			n.add(p, l)
			checkPseudo(t, p, l)
			if i < 4 {
				checkValidMoves(t, p, l)
			}
			for _, m := range l {
				n.addMove(p, m)
			}
		}
	}
	n.expect(t, 20, "moves, checks: 0", "moves, checks: 1", "moves, checks: 2", "none, checks: 0", "none, checks: 1", "none, checks: 2")
	n.expect(t, 20, "white", "black", "castles", "promotes", "passant", "full")
}

// addMove counts what is special about a legal move.
func (n tally) addMove(p api.Position, m api.Move) {
	side := "white"
	if p.Black {
		side = "black"
	}
	n[side]++
	if d := m.To - m.From; kindOf(p, m.From) == api.King && (d == 2 || d == -2) {
		n["castles"]++
	}
	if m.Promote != 0 {
		n["promotes"]++
	}
	if kindOf(p, m.From) == api.Pawn && m.To == p.Passant {
		n["passant"]++
	}
	if full(after(p, m)) {
		n["full"]++
	}
}

// A pawn that has just gone two ranks, and one that may capture it, are on all files of a board, with a king and a piece of the other side on all squares that are left.
func TestPassantMixtures(t *testing.T) {
	t.Parallel()
	n := tally{}
	s := api.Size{Files: 4, Ranks: 6}
	for i := range 4 * 2 * 24 * 24 * 3 {
		file, beside := i%4, i/4%2*2-1
		if file+beside < 0 || file+beside > 3 {
			continue
		}
		p := bare(s, i%3 == 0)
		there := file + 2*4
		if p.Black {
			there = file + 3*4
		}
		own := api.Piece(forward(p.Black))
		p.Passant = there + 4*forward(p.Black)
		king, foe := i/8%24, i/8/24%24
		p.Pieces[foe] = -own * api.Piece(3+i/8/24/24)
		p.Pieces[king] = api.King * own
		p.Pieces[there], p.Pieces[there+beside] = -own, own
		for _, q := range crowned(p) {
			m := api.Move{From: there + beside, To: p.Passant}
			l := checkPosition(t, q)
			if slices.Contains(l, m) {
				n["legal"]++
			} else {
				n["not"]++
			}
			checkIs(t, q, m, slices.Contains(l, m), api.OK)
			checkIs(t, changed(q, func(q *api.Position) { q.Passant = -1 }), m, false, api.OK)
		}
	}
	n.expect(t, 1000, "legal", "not")
}

// crowned returns a valid position with the king of the other side on the first empty square that is far from all else, or none.
func crowned(p api.Position) []api.Position {
	for at := range p.Pieces {
		q := changed(p, func(q *api.Position) { q.Pieces[at] = -api.King * api.Piece(forward(p.Black)) })
		if p.Pieces[at] == 0 && position.Valid(q) {
			return []api.Position{q}
		}
	}
	return nil
}

// Moves that only a full counter stops are legal, but After leaves them out.
func TestFullCounters(t *testing.T) {
	for _, c := range []struct{ position, legal, after string }{
		{"3x3 k2/3/2K w - - 10000 1", "c1b1 c1c2", ""},
		{"3x3 k2/3/2K w - - 9999 1", "c1b1 c1c2", "c1b1 c1c2"},
		{"3x3 k2/3/2K b - - 0 10000", "a3a2 a3b3", ""},
		{"3x3 k2/3/2K b - - 0 9999", "a3a2 a3b3", "a3a2 a3b3"},
		{"3x3 k2/3/2K w - - 0 10000", "c1b1 c1c2", "c1b1 c1c2"},
		{"3x3 k2/3/2K b - - 10000 10000", "a3a2 a3b3", ""},
		{"3x4 1k1/3/P1n/2K w - - 10000 5", "c1b1 c1b2 c1c2 a2a3", "c1c2 a2a3"},
		{"3x4 1k1/3/P1n/2K w - - 9999 5", "c1b1 c1b2 c1c2 a2a3", "c1b1 c1b2 c1c2 a2a3"},
		{"3x4 k2/3/1pK/2N b - - 10000 9", "b2b1N b2b1B b2b1R b2b1Q b2c1N b2c1B b2c1R b2c1Q a4a3 a4b4", "b2b1N b2b1B b2b1R b2b1Q b2c1N b2c1B b2c1R b2c1Q"},
		{"3x4 k2/3/1pK/2N b - - 0 10000", "b2b1N b2b1B b2b1R b2b1Q b2c1N b2c1B b2c1R b2c1Q a4a3 a4b4", ""},
		{"3x6 k2/3/3/Pp1/3/2K w - b4 0 10000", "c1b1 c1b2 a3a4 a3b4", "c1b1 c1b2 a3a4 a3b4"},
	} {
		p := known(t, c.position)
		l := checkPosition(t, p)
		checkValidMoves(t, p, l)
		var possible []api.Move
		for m := range legal.After(p) {
			possible = append(possible, m)
		}
		if lineOf(p, l) != c.legal || lineOf(p, possible) != c.after {
			t.Error(c.position, lineOf(p, l), "and", lineOf(p, possible), "want", c.legal, "and", c.after)
		}
	}
}

// count returns the number of lines of some moves.
func count(p api.Position, depth int) int {
	if depth == 0 {
		return 1
	}
	n := 0
	for _, q := range legal.After(p) {
		n += count(q, depth-1)
	}
	return n
}

// The numbers of lines that are known of well-known positions.
func TestCounts(t *testing.T) {
	t.Parallel()
	for _, c := range []struct {
		position string
		counts   []int
	}{
		{usual, []int{20, 400, 8902, 197281}},
		{"8x8 r3k2r/p1ppqpb1/bn2pnp1/3PN3/1p2P3/2N2Q1p/PPPBBPPP/R3K2R w KQkq - 0 1", []int{48, 2039, 97862}},
		{"8x8 8/2p5/3p4/KP5r/1R3p1k/8/4P1P1/8 w - - 0 1", []int{14, 191, 2812, 43238}},
		{"8x8 r3k2r/Pppp1ppp/1b3nbN/nP6/BBP1P3/q4N2/Pp1P2PP/R2Q1RK1 w kq - 0 1", []int{6, 264, 9467}},
		{"8x8 rnbq1k1r/pp1Pbppp/2p5/8/2B5/8/PPP1NnPP/RNBQK2R w KQ - 1 8", []int{44, 1486, 62379}},
		{"8x8 r4rk1/1pp1qppp/p1np1n2/2b1p1B1/2B1P1b1/P1NP1N2/1PP1QPPP/R4RK1 w - - 0 10", []int{46, 2079, 89890}},
		{"3x3 k2/3/2K w - - 0 1", []int{2, 2, 4}},
	} {
		p := known(t, c.position)
		for i, want := range c.counts {
			if n, image := count(p, i+1), count(mirrored(p), i+1); n != want || image != want {
				t.Error(c.position, i+1, n, image, "want", want)
			}
		}
	}
}

// P10.2: the iterator

// A loop stops after each number of moves, and the same iterator is used again from the beginning.
func TestIteratorStops(t *testing.T) {
	for _, s := range sizes() {
		for _, p := range samples(s, 4) {
			iterator := legal.After(p)
			var all []api.Move
			for m := range iterator {
				all = append(all, m)
			}
			for stop := range all {
				var l []api.Move
				for m, q := range iterator {
					if l = append(l, m); !same(q, after(p, m)) {
						t.Fatal(textOf(p), m, q)
					}
					if len(l) > stop {
						break
					}
				}
				if !slices.Equal(l, all[:stop+1]) {
					t.Fatal(textOf(p), lineOf(p, l), "want the beginning of", lineOf(p, all))
				}
			}
			checkPass(t, iterator, p, all)
		}
	}
}

// possible returns the moves that After has to go over.
func possible(p api.Position) []api.Move {
	var l []api.Move
	for at := range p.Pieces {
		l = append(l, legalFrom(p, at)...)
	}
	return slices.DeleteFunc(l, func(m api.Move) bool { return full(after(p, m)) })
}

// The iterator goes over the moves of the position as it was when After was called, whatever the caller does with the position then, before, during and after a loop.
func TestIteratorKeepsState(t *testing.T) {
	for _, s := range sizes() {
		for _, p := range samples(s, 4) {
			kept, l := copied(p), possible(p)
			iterator, late := legal.After(p), legal.After(p)
			checkPass(t, iterator, kept, l)
			pieces := p.Pieces
			n := 0
			for m, q := range iterator {
				if m != l[n] || !same(q, after(kept, m)) {
					t.Fatal(textOf(kept), m, q)
				}
				pieces[n%len(pieces)] = 0
				n++
			}
			clear(pieces)
			p.Black, p.Castle, p.Passant, p.Half, p.Full, p.Size = !p.Black, 15, 0, 10000, 0, api.Size{}
			checkPass(t, iterator, kept, l)
			checkPass(t, late, kept, l)
			copy(pieces, mirrored(kept).Pieces)
			checkPass(t, iterator, kept, l)
		}
	}
}

// Changing a position that the iterator has given changes neither later ones nor those of other loops.
func TestIteratorMemory(t *testing.T) {
	for _, s := range sizes() {
		for _, p := range samples(s, 4) {
			p.Pieces = append(make([]api.Piece, 0, 200), p.Pieces...)
			kept, l := copied(p), possible(p)
			iterator := legal.After(p)
			var all []api.Position
			for range 2 {
				for m, q := range iterator {
					if !same(q, after(kept, m)) {
						t.Fatal(textOf(kept), m, q)
					}
					all = append(all, q)
					fill(q, len(all))
				}
			}
			for i, q := range all {
				if slices.ContainsFunc(q.Pieces[:cap(q.Pieces)], func(x api.Piece) bool { return x != api.Piece((i+1)%100) }) {
					t.Fatal(textOf(kept), "the memory of position", i, "is shared")
				}
			}
			room := p.Pieces[len(p.Pieces):cap(p.Pieces)]
			if !same(p, kept) || slices.ContainsFunc(room, func(x api.Piece) bool { return x != 0 }) {
				t.Fatal(textOf(kept), "has become", p)
			}
			checkPass(t, iterator, kept, l)
		}
	}
}

// fill writes a number into all memory of a position.
func fill(p api.Position, n int) {
	for i := range p.Pieces[:cap(p.Pieces)] {
		p.Pieces[:cap(p.Pieces)][i] = api.Piece(n % 100)
	}
}

// Two loops over one iterator go on at the same time, one within the other or in turns.
func TestIteratorTwice(t *testing.T) {
	p := known(t, corners)
	l := possible(p)
	iterator := legal.After(p)
	n := 0
	for m := range iterator {
		if m != l[n] {
			t.Fatal(m, "want", l[n])
		}
		n++
		checkPass(t, iterator, p, l)
	}
	first, stopFirst := iter.Pull2(iterator)
	second, stopSecond := iter.Pull2(iterator)
	defer stopFirst()
	defer stopSecond()
	first()
	for _, want := range l[1:] {
		m, q, _ := first()
		fill(q, 1)
		if _, _, ok := second(); m != want || !ok {
			t.Fatal(m, ok, "want", want)
		}
	}
	if m, q, ok := second(); !ok || m != l[len(l)-1] || !same(q, after(p, m)) {
		t.Error(m, q, ok)
	}
}

// Over a position that is not valid, or that has no moves, the iterator goes over nothing, also when the position has become valid.
func TestIteratorOverNothing(t *testing.T) {
	p := known(t, corners)
	for _, change := range changes() {
		q := changed(p, change)
		iterator := legal.After(q)
		if iterator == nil {
			t.Fatal(q, "has no iterator")
		}
		copy(q.Pieces, p.Pieces)
		for m := range iterator {
			t.Error(q, m)
		}
	}
	for _, q := range []api.Position{{}, known(t, "3x3 k2/1Q1/K2 b - - 0 1"), known(t, "3x3 k2/2Q/1K1 b - - 0 1")} {
		iterator := legal.After(q)
		for m := range iterator {
			t.Error(q, m)
		}
	}
}

// Memory

// Nothing can be appended to the moves in their memory, and writing into it changes no other result.
func TestMemory(t *testing.T) {
	p := known(t, usual)
	p.Pieces = append(make([]api.Piece, 0, 200), p.Pieces...)
	first, _ := legal.Moves(p)
	second, _ := legal.Moves(p)
	want := slices.Clone(first)
	if cap(first) != len(first) {
		t.Error(len(first), cap(first))
	}
	first = append(first, api.Move{})
	clear(first)
	clear(p.Pieces[:cap(p.Pieces)])
	if third, e := legal.Moves(known(t, usual)); !slices.Equal(second, want) || !slices.Equal(third, want) || e != api.OK {
		t.Error(second, third, e, "want", want)
	}
	for _, s := range sizes() {
		for _, p := range samples(s, 10) {
			if l, _ := legal.Moves(p); cap(l) != len(l) {
				t.Error(textOf(p), len(l), cap(l))
			}
		}
	}
}

// The same calls have the same results, whatever was called between them.
func TestCallsAgain(t *testing.T) {
	for range 2 {
		for _, s := range sizes() {
			for _, p := range samples(s, 2) {
				checkBoth(t, p)
				checkInvalid(t, changed(p, func(q *api.Position) { q.Full = 0 }), 0, api.Move{To: 1})
			}
		}
	}
}
