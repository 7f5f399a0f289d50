package position_test

import (
	"math"
	"regexp"
	"slices"
	"strconv"
	"strings"
	"testing"

	"caissa/api"
	"caissa/position"
)

// numbers are at, beside and far beyond the limits of the layer; some are within them if only their last bits are looked at.
var numbers = []int{math.MinInt, math.MinInt + 1, -1<<32 - 1, -1<<32 + 1, math.MinInt32, -65536, -10001, -10000, -257, -256, -64, -9, -2, -1, 0, 1, 2, 7, 8, 9, 11, 16, 20, 32, 40, 63, 64, 65, 100, 149, 255, 256, 272, 9999, 10000, 10001, 10002, 65535, 65536, math.MaxInt32, 1 << 32, 1<<32 + 1, math.MaxInt - 1, math.MaxInt}

// badSizes are sizes that are not valid; the number of squares of some of them is that of a valid one, or overflows to it.
var badSizes = []api.Size{{}, {Files: 2, Ranks: 3}, {Files: 3, Ranks: 2}, {Files: 2, Ranks: 6}, {Files: 6, Ranks: 2}, {Files: 9, Ranks: 3}, {Files: 3, Ranks: 9}, {Files: 1, Ranks: 9}, {Files: 9, Ranks: 1}, {Files: 0, Ranks: 8}, {Files: 8, Ranks: 0}, {Files: -3, Ranks: -3}, {Files: 8, Ranks: -8}, {Files: 16, Ranks: 4}, {Files: 1<<62 + 3, Ranks: 4}, {Files: 264, Ranks: 8}, {Files: math.MaxInt, Ranks: math.MaxInt}, {Files: math.MinInt, Ranks: math.MinInt}}

// sides has the two answers to whether Black is to move.
var sides = []bool{false, true}

// usual is the text of the usual beginning.
const usual = "8x8 rnbqkbnr/pppppppp/8/8/8/8/PPPPPPPP/RNBQKBNR w KQkq - 0 1"

// sizes returns all valid sizes.
func sizes() []api.Size {
	var l []api.Size
	for files := 3; files <= 8; files++ {
		for ranks := 3; ranks <= 8; ranks++ {
			l = append(l, api.Size{Files: files, Ranks: ranks})
		}
	}
	return l
}

// man is a piece on a square.
type man struct {
	at int
	p  api.Piece
}

// with returns a position with some pieces, of which later ones take the places of earlier ones, and nothing else.
func with(s api.Size, black bool, men ...man) api.Position {
	p := api.Position{Size: s, Pieces: make([]api.Piece, s.Files*s.Ranks), Black: black, Passant: -1, Full: 1}
	for _, m := range men {
		p.Pieces[m.at] = m.p
	}
	return p
}

// clone returns the same position in new memory.
func clone(p api.Position) api.Position {
	p.Pieces = append([]api.Piece(nil), p.Pieces...)
	return p
}

// changed returns a position in new memory with a change.
func changed(p api.Position, change func(*api.Position)) api.Position {
	p = clone(p)
	change(&p)
	return p
}

// same tells whether two positions are equal in all parts.
func same(p, q api.Position) bool {
	if len(p.Pieces) != len(q.Pieces) {
		return false
	}
	for at := range p.Pieces {
		if p.Pieces[at] != q.Pieces[at] {
			return false
		}
	}
	return p.Size.Files == q.Size.Files && p.Size.Ranks == q.Size.Ranks && p.Black == q.Black && p.Castle == q.Castle && p.Passant == q.Passant && p.Half == q.Half && p.Full == q.Full
}

// zero tells whether a position is the zero value.
func zero(p api.Position) bool {
	return p.Size == api.Size{} && len(p.Pieces) == 0 && !p.Black && p.Castle == 0 && p.Passant == 0 && p.Half == 0 && p.Full == 0
}

// dice gives numbers that look like random ones, always the same.
type dice uint64

func (d *dice) roll(n int) int {
	*d = *d*6364136223846793005 + 1442695040888963407
	return int(uint64(*d)>>33) % n
}

// The definitions of the chapter, written out without the functions of the program.

func magnitude(n int) int { return max(n, -n) }

func sign(n int) int {
	if n == 0 {
		return 0
	}
	return n / magnitude(n)
}

// attacks tells whether the piece on a square attacks another square.
func attacks(p api.Position, from, to int) bool {
	files, ranks := to%p.Size.Files-from%p.Size.Files, to/p.Size.Files-from/p.Size.Files
	wide, high := magnitude(files), magnitude(ranks)
	if wide+high == 0 {
		return false
	}
	straight, slanting := wide*high == 0, wide == high
	switch piece := p.Pieces[from]; piece {
	case 1, -1:
		return wide == 1 && ranks == int(piece)
	case 2, -2:
		return wide*high == 2
	case 3, -3:
		return slanting && free(p, from, to, files, ranks)
	case 4, -4:
		return straight && free(p, from, to, files, ranks)
	case 5, -5:
		return (straight || slanting) && free(p, from, to, files, ranks)
	case 6, -6:
		return max(wide, high) == 1
	}
	return false
}

// free tells whether the squares between two squares on a line are empty.
func free(p api.Position, from, to, files, ranks int) bool {
	for at := from + sign(files) + sign(ranks)*p.Size.Files; at != to; at += sign(files) + sign(ranks)*p.Size.Files {
		if p.Pieces[at] != 0 {
			return false
		}
	}
	return true
}

// kingsAre tells whether there is exactly one king of each side, and the one of the side that is not to move is not attacked.
func kingsAre(p api.Position) bool {
	mover, other := api.Piece(6), api.Piece(-6)
	if p.Black {
		mover, other = other, mover
	}
	home, movers, others := 0, 0, 0
	for at, piece := range p.Pieces {
		switch piece {
		case mover:
			movers++
		case other:
			home = at
			others++
		}
	}
	if movers != 1 || others != 1 {
		return false
	}
	for from, piece := range p.Pieces {
		if piece != 0 && (piece < 0) == p.Black && attacks(p, from, home) {
			return false
		}
	}
	return true
}

// castleIs tells whether the kings and rooks of all rights are on their squares.
func castleIs(p api.Position) bool {
	if p.Castle == 0 {
		return true
	}
	if p.Castle > 15 || p.Size.Files != 8 || p.Size.Ranks != 8 {
		return false
	}
	e1, h1, a1 := p.Pieces[4] == 6, p.Pieces[7] == 4, p.Pieces[0] == 4
	e8, h8, a8 := p.Pieces[60] == -6, p.Pieces[63] == -4, p.Pieces[56] == -4
	return (p.Castle%2 < 1 || e1 && h1) && (p.Castle%4 < 2 || e1 && a1) && (p.Castle%8 < 4 || e8 && h8) && (p.Castle < 8 || e8 && a8)
}

// passantIs tells whether the square behind a pawn is one, or there is none.
func passantIs(p api.Position) bool {
	if p.Passant == -1 {
		return true
	}
	if p.Size.Ranks < 6 || p.Half != 0 {
		return false
	}
	for file := range p.Size.Files {
		fourth, near, far, pawn := 3, 2, 1, api.Piece(1)
		if !p.Black {
			fourth, near, far, pawn = p.Size.Ranks-4, p.Size.Ranks-3, p.Size.Ranks-2, -1
		}
		column := func(rank int) api.Piece { return p.Pieces[file+rank*p.Size.Files] }
		if p.Passant == file+near*p.Size.Files && column(fourth) == pawn && column(near) == 0 && column(far) == 0 {
			return true
		}
	}
	return false
}

// valid tells whether a position is valid.
func valid(p api.Position) bool {
	files, ranks := p.Size.Files, p.Size.Ranks
	if files < 3 || files > 8 || ranks < 3 || ranks > 8 || len(p.Pieces) != files*ranks {
		return false
	}
	for at, piece := range p.Pieces {
		if piece < -6 || piece > 6 || piece == 1 && at/files == ranks-1 || piece == -1 && at/files == 0 {
			return false
		}
	}
	return kingsAre(p) && castleIs(p) && passantIs(p) && p.Half >= 0 && p.Half <= 10000 && p.Full >= 1 && p.Full <= 10000
}

// textOf returns the text of a valid position.
func textOf(p api.Position) string {
	text := strconv.Itoa(p.Size.Files) + "x" + strconv.Itoa(p.Size.Ranks) + " "
	for rank := p.Size.Ranks - 1; rank >= 0; rank-- {
		for file := range p.Size.Files {
			text += "kqrbnp.PNBRQK"[p.Pieces[rank*p.Size.Files+file]+6:][:1]
		}
		if rank > 0 {
			text += "/"
		}
	}
	for n := 8; n >= 1; n-- {
		text = strings.ReplaceAll(text, strings.Repeat(".", n), strconv.Itoa(n))
	}
	text += map[bool]string{false: " w ", true: " b "}[p.Black]
	text += []string{"-", "K", "Q", "KQ", "k", "Kk", "Qk", "KQk", "q", "Kq", "Qq", "KQq", "kq", "Kkq", "Qkq", "KQkq"}[p.Castle]
	if p.Passant == -1 {
		text += " -"
	} else {
		text += " " + "abcdefgh"[p.Passant%p.Size.Files:][:1] + strconv.Itoa(p.Passant/p.Size.Files+1)
	}
	return text + " " + strconv.Itoa(p.Half) + " " + strconv.Itoa(p.Full)
}

// form is the form of all texts of positions, and of some others.
var form = regexp.MustCompile(`\A([3-8])x([3-8]) ([1-8pnbrqkPNBRQK/]+) ([wb]) (-|K?Q?k?q?) (-|[a-h][1-8]) (0|[1-9][0-9]{0,4}) ([1-9][0-9]{0,4})\z`)

// read returns the position with a text, and whether there is one that is valid.
func read(text string) (api.Position, bool) {
	words := form.FindStringSubmatch(text)
	if words == nil {
		return api.Position{}, false
	}
	p := api.Position{Size: api.Size{Files: int(words[1][0] - '0'), Ranks: int(words[2][0] - '0')}, Black: words[4] == "b", Passant: -1}
	ranks := strings.Split(words[3], "/")
	for i := len(ranks) - 1; i >= 0; i-- {
		for _, c := range ranks[i] {
			if c <= '8' {
				p.Pieces = append(p.Pieces, make([]api.Piece, c-'0')...)
			} else {
				p.Pieces = append(p.Pieces, api.Piece(strings.IndexRune("kqrbnp.PNBRQK", c)-6))
			}
		}
	}
	for i, letter := range "KQkq" {
		if strings.ContainsRune(words[5], letter) {
			p.Castle += 1 << i
		}
	}
	if at := words[6]; at != "-" {
		p.Passant = int(at[0]-'a') + int(at[1]-'1')*p.Size.Files
		if int(at[0]-'a') >= p.Size.Files {
			return api.Position{}, false
		}
	}
	p.Half, _ = strconv.Atoi(words[7])
	p.Full, _ = strconv.Atoi(words[8])
	// Groups that could be one, and ranks of other lengths than the size says, are not in the text that the position has.
	if !valid(p) || textOf(p) != text {
		return api.Position{}, false
	}
	return p, true
}

// known returns the position with a text that a test is written with.
func known(t *testing.T, text string) api.Position {
	t.Helper()
	p, ok := read(text)
	if !ok {
		t.Fatal("not the text of a valid position:", text)
	}
	return p
}

// checkValid checks whether a position is valid, and all that follows from it: what Text and Of say of it, and that it is as before.
func checkValid(t *testing.T, p api.Position) bool {
	t.Helper()
	before, want := clone(p), valid(p)
	if position.Valid(p) != want {
		t.Fatal(p, "is valid:", want)
	}
	text, e := position.Text(p)
	if want && (text != textOf(p) || e != api.OK) || !want && (text != "" || e != api.ErrArg) {
		t.Fatal(p, "has the text", text, e)
	}
	checkOf(t, p)
	if !same(p, before) {
		t.Fatal("was changed:", before, "to", p)
	}
	return want
}

// checkOf checks the position of the board of a position.
func checkOf(t *testing.T, p api.Position) {
	t.Helper()
	want := api.Position{Size: p.Size, Pieces: p.Pieces, Black: p.Black, Passant: -1, Full: 1}
	q, e := position.Of(api.Board{Size: p.Size, Pieces: p.Pieces}, p.Black)
	if valid(want) && (e != api.OK || !same(q, want)) || !valid(want) && (e != api.ErrArg || !zero(q)) {
		t.Fatal(want, "is of its board:", q, e)
	}
}

// mixture returns a position that is often valid: pieces on about one square of some, a king of each side, and mostly rights and a Passant that fit.
func mixture(s api.Size, d *dice, thin int) api.Position {
	p := with(s, d.roll(2) == 1)
	for at := range p.Pieces {
		if d.roll(thin) == 0 {
			p.Pieces[at] = api.Piece(d.roll(5)+1) * api.Piece(1-2*d.roll(2))
		}
		if rank := at / s.Files; p.Pieces[at] == 1 && rank == s.Ranks-1 || p.Pieces[at] == -1 && rank == 0 {
			p.Pieces[at] *= api.Piece(1 + 2*d.roll(8)/7)
		}
	}
	homes := [2]int{d.roll(len(p.Pieces)), d.roll(len(p.Pieces))}
	if len(p.Pieces) == 64 && d.roll(2) == 0 {
		homes = [2]int{4, 60}
		for i, at := range [...]int{0, 7, 56, 63} {
			p.Pieces[at] = [...]api.Piece{4, 4, -4, -4}[i]
		}
		p.Castle = uint8(d.roll(16))
	}
	p.Pieces[homes[0]], p.Pieces[homes[1]] = 6, -6
	p.Half, p.Full = d.roll(2)*d.roll(10001), d.roll(10000)+1
	if d.roll(2) == 0 && s.Ranks >= 6 {
		p.Half = 0
		p = stepped(p, d.roll(s.Files))
	}
	return p
}

// stepped puts a pawn of the side that is not to move on a file as if it had just gone two ranks.
func stepped(p api.Position, file int) api.Position {
	pawn, from, forward := api.Piece(1), p.Size.Files+file, p.Size.Files
	if !p.Black {
		pawn, from, forward = -1, (p.Size.Ranks-2)*p.Size.Files+file, -p.Size.Files
	}
	p.Pieces[from], p.Pieces[from+forward], p.Pieces[from+2*forward] = 0, 0, pawn
	p.Passant = from + forward
	return p
}

// samples returns positions of a size, of which many are valid.
func samples(s api.Size, n int) []api.Position {
	d := dice(s.Files*10 + s.Ranks)
	var l []api.Position
	for i := range n {
		l = append(l, mixture(s, &d, 2+i%12))
	}
	return l
}

// validOnes returns valid positions of all sizes.
func validOnes(t *testing.T, n int) []api.Position {
	t.Helper()
	var l []api.Position
	for _, s := range sizes() {
		before := len(l)
		for _, p := range samples(s, n) {
			if valid(p) {
				l = append(l, p)
			}
		}
		if len(l)-before < n/20 {
			t.Fatal("only", len(l)-before, "valid positions of", s)
		}
	}
	return l
}

// notValid returns positions that are not valid because of their sizes, their numbers of pieces or single pieces.
func notValid() []api.Position {
	var l []api.Position
	for _, s := range badSizes {
		for _, n := range []int{0, 1, 9, 12, 64, 65, int(uint64(s.Files) * uint64(s.Ranks) % 128)} {
			p := api.Position{Size: s, Pieces: make([]api.Piece, n), Passant: -1, Full: 1}
			if n > 8 {
				p.Pieces[0], p.Pieces[8] = 6, -6
			}
			l = append(l, p)
		}
	}
	for _, s := range sizes() {
		kings := with(s, false, man{0, 6}, man{s.Files*s.Ranks - 1, -6})
		for _, n := range []int{0, 1, s.Files, s.Files*s.Ranks - 1} {
			l = append(l, changed(kings, func(p *api.Position) { p.Pieces = p.Pieces[:n] }))
			l = append(l, changed(kings, func(p *api.Position) { p.Pieces = append(p.Pieces, make([]api.Piece, n+1)...) }))
		}
		l = append(l, changed(kings, func(p *api.Position) { p.Pieces = append(p.Pieces, make([]api.Piece, 256)...) }))
		for n := math.MinInt8; n <= math.MaxInt8; n++ {
			if magnitude(n) > 6 {
				at := 1 + (n+128)%(s.Files*s.Ranks-2)
				l = append(l, changed(kings, func(p *api.Position) { p.Pieces[at] = api.Piece(n) }))
			}
		}
	}
	return l
}

// P6.1

func TestValid(t *testing.T) {
	for _, s := range sizes() {
		l := samples(s, 600)
		count := 0
		for _, p := range l {
			if checkValid(t, p) {
				count++
			}
		}
		if count < 30 || count > 500 {
			t.Error(s, "has", count, "valid positions")
		}
	}
}

func TestNotValid(t *testing.T) {
	for _, p := range notValid() {
		for _, black := range sides {
			p.Black = black
			if checkValid(t, p) {
				t.Error(p, "is valid")
			}
		}
	}
}

// Just two kings that are not neighbours are enough, on the boards of all sizes.
func TestTwoKings(t *testing.T) {
	for _, s := range sizes() {
		count := 0
		for white := range s.Files * s.Ranks {
			for black := range s.Files * s.Ranks {
				for _, side := range sides {
					if checkValid(t, with(s, side, man{white, 6}, man{black, -6})) {
						count++
					}
				}
			}
		}
		// Each square has as many neighbours as a king has moves from there.
		n, neighbours := s.Files*s.Ranks, 2*(4*s.Files*s.Ranks-3*(s.Files+s.Ranks)+2)
		if count != 2*(n*(n-1)-neighbours) {
			t.Error(s, "has", count, "pairs of kings")
		}
	}
}

// All boards are tried that have no, one or two kings of each side on a small board.
func TestNumbersOfKings(t *testing.T) {
	s := api.Size{Files: 3, Ranks: 3}
	for i := range 10 * 10 * 10 * 10 {
		for _, black := range sides {
			p := with(s, black)
			for _, m := range []man{{i % 10, 6}, {i / 10 % 10, 6}, {i / 100 % 10, -6}, {i / 1000, -6}} {
				if m.at < 9 {
					p.Pieces[m.at] = m.p
				}
			}
			checkValid(t, p)
		}
	}
}

// A king on any square of a board may be too much, and one may be too few, whatever else there is.
func TestOneKingEach(t *testing.T) {
	for _, p := range validOnes(t, 60) {
		for at, piece := range p.Pieces {
			for _, other := range []api.Piece{0, 6, -6} {
				q := changed(p, func(p *api.Position) { p.Pieces[at] = other })
				good := checkValid(t, q)
				if good && other != piece && (other != 0 || magnitude(int(piece)) == 6) {
					t.Fatal(q, "is valid")
				}
			}
		}
	}
}

// Each piece is put on each square of a board with two kings: the side that is not to move may be in check by it, or a pawn may be on its last rank.
func TestOnePiece(t *testing.T) {
	for _, s := range []api.Size{{Files: 3, Ranks: 3}, {Files: 3, Ranks: 4}, {Files: 5, Ranks: 3}} {
		n := s.Files * s.Ranks
		for i := range n * n * n {
			for piece := api.Piece(-5); piece <= 5; piece++ {
				for _, black := range sides {
					checkValid(t, with(s, black, man{i / n / n, piece}, man{i % n, 6}, man{i / n % n, -6}))
				}
			}
		}
	}
}

// Pawns of both sides are tried on each square of all boards; only their last ranks are forbidden to them.
func TestPawns(t *testing.T) {
	for _, s := range sizes() {
		for at := range s.Files * s.Ranks {
			for _, pawn := range []api.Piece{1, -1} {
				good := false
				n := s.Files * s.Ranks
				for i := 0; i < n*n; i += 1 + n*n/60 {
					for _, black := range sides {
						p := with(s, black, man{i % n, 6}, man{i / n, -6}, man{at, pawn})
						good = checkValid(t, p) || good
					}
				}
				arrived := pawn == 1 && at >= s.Files*(s.Ranks-1) || pawn == -1 && at < s.Files
				if good == arrived {
					t.Error(s, at, pawn, "may be there:", good)
				}
			}
		}
	}
}

// The side to move may be in check, also twice, and the other one may not.
func TestChecks(t *testing.T) {
	for _, c := range []struct {
		board        string
		white, black bool // whether it is valid with White to move, and with Black
	}{
		{"3x3 k2/3/2K", true, true}, {"3x3 kR1/3/2K", false, true}, {"3x3 k2/r2/2K", true, true}, {"3x3 k2/3/r1K", true, false}, {"3x3 kR1/3/1rK", false, false}, {"3x3 k2/1N1/2K", true, true}, {"3x3 k2/2N/2K", false, true}, {"3x3 k2/2n/2K", true, true}, {"3x3 kr1/3/1RK", true, true},
		{"4x4 3k/2P1/4/K3", false, true}, {"4x4 3k/2p1/4/K3", true, true}, {"4x4 3k/4/1p2/K3", true, false}, {"4x4 3k/4/1P2/K3", true, true}, {"4x4 3K/2P1/4/k3", true, true}, {"4x4 3K/4/1p2/k3", true, true},
		{"5x5 4k/5/5/1n3/4K", true, true}, {"5x5 4k/5/5/2n2/4K", true, false}, {"5x5 4k/5/3b1/5/3RK", true, true}, {"5x5 4k/5/2b2/5/4K", true, false}, {"5x5 4k/5/2b2/3P1/4K", true, true}, {"5x5 4k/5/2b2/3p1/4K", true, false}, {"5x5 4k/5/2b2/3r1/4K", true, true},
		{"5x5 4k/1r3/5/2n2/1K3", true, false}, {"5x5 1r2k/b4/5/n4/1K3", true, false}, {"5x5 q3k/5/5/5/4K", true, false}, {"5x5 q3k/1P3/5/5/4K", true, true}, {"5x5 q3k/1p3/5/5/4K", true, true}, {"5x5 k3Q/5/5/5/4K", false, true}, {"5x5 k1n1Q/5/5/5/4K", true, true}, {"5x5 k4/5/5/5/Q3K", false, true},
		{"3x3 kK1/3/3", false, false}, {"3x3 k2/1K1/3", false, false}, {"3x3 k2/2K/3", true, true},
	} {
		for _, black := range sides {
			text, want := c.board+" w - - 0 1", c.white
			if black {
				text, want = c.board+" b - - 0 1", c.black
			}
			p, e := position.Parse(text)
			if (e == api.OK) != want || want && !position.Valid(p) {
				t.Error(text, e, "is valid:", want)
			}
		}
	}
}

// All rights are tried with all sets of kings and rooks on their squares, where the king is elsewhere if it is not there.
func TestCastle(t *testing.T) {
	s := api.Size{Files: 8, Ranks: 8}
	for set := range 64 {
		for _, other := range []api.Piece{0, 3} {
			p := with(s, set%3 == 0, man{25, 6}, man{38, -6})
			for i, m := range []man{{0, 4}, {7, 4}, {56, -4}, {63, -4}, {4, 6}, {60, -6}} {
				switch {
				case set>>i&1 == 0:
					p.Pieces[m.at] = other
				case m.p == 6:
					p.Pieces[m.at], p.Pieces[25] = 6, 0
				case m.p == -6:
					p.Pieces[m.at], p.Pieces[38] = -6, 0
				default:
					p.Pieces[m.at] = m.p
				}
			}
			allRights(t, p, set)
		}
	}
}

// allRights tries all numbers as the rights of a position with a set of kings and rooks on their squares: those of White from the bit 0 on, those of Black from the bit 2 on, and both kings.
func allRights(t *testing.T, p api.Position, set int) {
	t.Helper()
	if !valid(p) {
		t.Fatal(p, "is not valid without rights")
	}
	rights := 0
	for i, men := range []int{1<<1 | 1<<4, 1<<0 | 1<<4, 1<<3 | 1<<5, 1<<2 | 1<<5} {
		if set&men == men {
			rights |= 1 << i
		}
	}
	for castle := range 256 {
		p.Castle = uint8(castle)
		if good := checkValid(t, p); good != (castle&^rights == 0) {
			t.Fatal(p, "is valid:", good)
		}
	}
}

// Kings and rooks of the other side, or other pieces, give no rights.
func TestCastleOtherPieces(t *testing.T) {
	for castle := range uint8(16) {
		for at, first := range []int{0, 4, 7, 56, 60, 63} {
			for piece := api.Piece(-6); piece <= 6; piece++ {
				p := with(api.Size{Files: 8, Ranks: 8}, at%2 == 0, man{0, 4}, man{7, 4}, man{56, -4}, man{63, -4}, man{4, 6}, man{60, -6}, man{first, piece})
				p.Castle = castle
				checkValid(t, p)
				p.Pieces[26] = 6
				checkValid(t, p)
				p.Pieces[26] = -6
				checkValid(t, p)
			}
		}
		// The two sides have changed places.
		p := with(api.Size{Files: 8, Ranks: 8}, false, man{0, -4}, man{7, -4}, man{56, 4}, man{63, 4}, man{4, -6}, man{60, 6})
		p.Castle = castle
		if checkValid(t, p) != (castle == 0) {
			t.Error(p)
		}
	}
}

// No side may castle on other boards, not even with kings and rooks in the corners and on the squares with the same numbers or names.
func TestCastleSizes(t *testing.T) {
	for _, s := range sizes() {
		if s.Files == 8 && s.Ranks == 8 {
			continue
		}
		n := s.Files * s.Ranks
		d := dice(n)
		places := [][]man{
			{{0, 4}, {s.Files - 1, 4}, {min(4, s.Files-2), 6}, {n - s.Files, -4}, {n - 1, -4}, {n - s.Files + min(4, s.Files-2), -6}},
			{{0, 4}, {7, 4}, {4, 6}, {56 % n, -4}, {63 % n, -4}, {60 % n, -6}},
			{{0, 4}, {7, 4}, {4, 6}, {n - 2, -6}},
			{{n - 8, -4}, {n - 1, -4}, {n - 4, -6}, {1, 6}},
			{{d.roll(n), 4}, {d.roll(n), -4}, {d.roll(n), 6}, {d.roll(n), -6}},
		}
		for _, men := range places {
			for castle := range 256 {
				p := with(s, castle%3 == 0, men...)
				p.Castle = uint8(castle)
				if checkValid(t, p) && castle != 0 {
					t.Fatal(p, "is valid")
				}
			}
		}
	}
}

// Each number is tried as Passant, with a pawn that has just gone two ranks on each file, or with none: just one is right.
func TestPassant(t *testing.T) {
	for _, s := range sizes() {
		for _, black := range sides {
			for file := range s.Files {
				p := twoSteps(s, black, file)
				count := 0
				for at := -2; at <= s.Files*s.Ranks+1; at++ {
					p.Passant = at
					if checkValid(t, p) {
						count++
					}
				}
				for _, at := range numbers {
					p.Passant = at
					checkValid(t, p)
				}
				want := 2
				if s.Ranks < 6 {
					want = 1
				}
				if count != want {
					t.Error(p, "has", count, "squares for Passant")
				}
			}
		}
	}
}

// twoSteps returns a valid position in which a pawn has just gone two ranks, if the board has enough ranks; otherwise, the pawn is on its fourth rank, if it may be there.
func twoSteps(s api.Size, black bool, file int) api.Position {
	n := s.Files * s.Ranks
	pawn := man{file + 3*s.Files, 1}
	if !black {
		pawn = man{file + (s.Ranks-4)*s.Files, -1}
	}
	for i := range n * n {
		p := with(s, black, man{i % n, 6}, man{i / n, -6})
		// Without kings on this file, they are not in the way.
		if i%n%s.Files == file || i/n%s.Files == file {
			continue
		}
		if s.Ranks > 4 {
			p.Pieces[pawn.at] = pawn.p
		}
		if valid(p) {
			return p
		}
	}
	return api.Position{}
}

// The pawn, the two squares behind it and the one before it have each piece, or none, and the pawn is moved to each other rank of its file.
func TestPassantPieces(t *testing.T) {
	for _, s := range sizes() {
		if s.Ranks < 6 {
			continue
		}
		for file := range s.Files {
			for _, black := range sides {
				p := stepped(twoSteps(s, black, file), file)
				if !checkValid(t, p) {
					t.Fatal(p, "is not valid")
				}
				for rank := range s.Ranks {
					at := file + rank*s.Files
					for piece := api.Piece(-6); piece <= 6; piece++ {
						checkValid(t, changed(p, func(p *api.Position) { p.Pieces[at] = piece }))
					}
				}
				elsewhere(t, p)
			}
		}
	}
}

// elsewhere checks that with a Passant the pawn may not be on any other square, the other side may not be to move, and Half may not be other than 0.
func elsewhere(t *testing.T, p api.Position) {
	t.Helper()
	pawn := slices.IndexFunc(p.Pieces, func(piece api.Piece) bool { return magnitude(int(piece)) == 1 })
	for at, piece := range p.Pieces {
		if piece != 0 {
			continue
		}
		q := changed(p, func(p *api.Position) { p.Pieces[at], p.Pieces[pawn] = p.Pieces[pawn], 0 })
		if checkValid(t, q) {
			t.Fatal(q, "is valid")
		}
	}
	if q := changed(p, func(p *api.Position) { p.Black = !p.Black }); checkValid(t, q) {
		t.Fatal(q, "is valid")
	}
	for _, half := range numbers {
		q := changed(p, func(p *api.Position) { p.Half = half })
		if checkValid(t, q) != (half == 0) {
			t.Fatal(q, "is valid:", half != 0)
		}
	}
}

// The squares behind the pawn may be empty or not, each for itself; the squares beside do not matter.
func TestPassantExamples(t *testing.T) {
	for _, c := range []struct {
		text string
		want bool
	}{
		{"3x6 k2/3/P2/3/3/2K b - a3 0 1", true}, {"3x6 k2/3/P2/3/3/2K b - a2 0 1", false}, {"3x6 k2/3/P2/3/3/2K b - a4 0 1", false}, {"3x6 k2/3/P2/3/3/2K b - b3 0 1", false}, {"3x6 k2/3/P2/3/3/2K w - a3 0 1", false},
		{"3x6 k2/3/3/P2/3/2K b - a2 0 1", false}, {"3x6 k2/3/3/P2/3/2K b - a3 0 1", false}, {"3x6 k2/3/P2/N2/3/2K b - a3 0 1", false}, {"3x6 k2/3/P2/3/N2/2K b - a3 0 1", false}, {"3x6 k2/3/P2/1b1/1N1/N1K b - a3 0 1", true}, {"3x6 k2/3/N2/3/3/2K b - a3 0 1", false}, {"3x6 k2/3/p2/3/3/2K b - a3 0 1", false},
		{"3x6 k2/3/3/1p1/3/2K w - b4 0 1", true}, {"3x6 k2/3/3/1p1/3/2K w - b5 0 1", false}, {"3x6 k2/3/3/1p1/3/2K w - b3 0 1", false}, {"3x6 k2/3/3/1p1/3/2K w - b2 0 1", false}, {"3x6 k2/3/3/1p1/3/2K b - b4 0 1", false}, {"3x6 k2/1n1/3/1p1/3/2K w - b4 0 1", false}, {"3x6 k2/3/1n1/1p1/3/2K w - b4 0 1", false}, {"3x6 k2/3/3/1P1/3/2K w - b4 0 1", false},
		{"3x7 k2/3/3/P2/3/3/2K b - a3 0 1", true}, {"3x7 k2/3/3/1p1/3/3/2K w - b5 0 1", true}, {"3x7 k2/3/3/3/1p1/3/2K w - b4 0 1", false}, {"3x8 k2/3/3/3/1p1/3/3/2K w - b5 0 1", false}, {"3x8 k2/3/3/1p1/3/3/3/2K w - b6 0 1", true}, {"3x8 k2/3/3/3/P2/3/3/2K b - a3 0 1", true}, {"3x8 k2/3/3/3/P2/3/3/2K b - a3 1 1", false},
		{"3x5 k2/P2/3/3/2K b - a3 0 1", false}, {"3x5 k2/3/3/1p1/K2 w - b3 0 1", false}, {"4x5 k3/4/P3/4/3K b - a2 0 1", false},
	} {
		if p, e := position.Parse(c.text); (e == api.OK) != c.want || c.want && !checkValid(t, p) {
			t.Error(c.text, e)
		}
	}
}

// Half and Full are tried at, below and above their limits, which are those of the chapter.
func TestCounters(t *testing.T) {
	if position.MaxHalf != 10000 || position.MaxFull != 10000 {
		t.Error(position.MaxHalf, position.MaxFull)
	}
	p := known(t, "3x4 k2/3/3/2K b - - 0 1")
	for _, half := range numbers {
		for _, full := range numbers {
			p.Half, p.Full = half, full
			if good := checkValid(t, p); good != (half >= 0 && half <= 10000 && full >= 1 && full <= 10000) {
				t.Error(half, full, good)
			}
		}
	}
}

// P6.2

func TestBoard(t *testing.T) {
	for _, p := range append(validOnes(t, 60), notValid()...) {
		before := clone(p)
		b := position.Board(p)
		if b.Size != p.Size || !slices.Equal(b.Pieces, p.Pieces) {
			t.Fatal(p, b)
		}
		for at := range b.Pieces {
			b.Pieces[at]++
		}
		if !same(p, before) {
			t.Fatal("shared:", p)
		}
	}
	if b := position.Board(api.Position{}); b.Size != (api.Size{}) || len(b.Pieces) != 0 {
		t.Error(b)
	}
}

// What is appended to a board or a copy does not go to the memory behind the pieces of the position.
func TestAppended(t *testing.T) {
	for n := range 12 {
		memory := []api.Piece{1, 2, 3, 4, 5, 6, -1, -2, -3, -4, -5, -6}
		before := slices.Clone(memory)
		p := api.Position{Size: api.Size{Files: 3, Ranks: 3}, Pieces: memory[:n]}
		b, q := position.Board(p), position.Copy(p)
		if !slices.Equal(b.Pieces, memory[:n]) || !slices.Equal(q.Pieces, memory[:n]) {
			t.Error(n, b, q)
		}
		_ = append(b.Pieces, 15)
		_ = append(q.Pieces, 15)
		if !slices.Equal(memory, before) {
			t.Error(n, memory)
		}
	}
	memory := []api.Piece{6, 0, 0, 0, 0, 0, 0, 0, -6, 2, 2}
	p, e := position.Of(api.Board{Size: api.Size{Files: 3, Ranks: 3}, Pieces: memory[:9]}, true)
	_ = append(p.Pieces, 15)
	if memory[9] != 2 || e != api.OK {
		t.Error(memory, e)
	}
}

func TestOf(t *testing.T) {
	count := 0
	for _, p := range validOnes(t, 60) {
		for _, black := range sides {
			b := api.Board{Size: p.Size, Pieces: p.Pieces}
			before := clone(p)
			q, e := position.Of(b, black)
			want := api.Position{Size: p.Size, Pieces: p.Pieces, Black: black, Passant: -1, Full: 1}
			if !valid(want) {
				want = api.Position{}
				count++
			}
			if !same(q, want) || (e == api.OK) != (q.Full == 1) || e != api.OK && e != api.ErrArg {
				t.Fatal(b, black, q, e)
			}
			for at := range q.Pieces {
				q.Pieces[at]++
			}
			if !same(p, before) {
				t.Fatal("shared:", p, before)
			}
		}
	}
	if count < 20 {
		t.Error("only", count, "boards without a position")
	}
}

func TestOfErrors(t *testing.T) {
	for _, p := range notValid() {
		for _, black := range sides {
			if q, e := position.Of(api.Board{Size: p.Size, Pieces: p.Pieces}, black); e != api.ErrArg || !zero(q) {
				t.Error(p, q, e)
			}
		}
	}
}

func TestStart(t *testing.T) {
	p := position.Start()
	want := with(api.Size{Files: 8, Ranks: 8}, false)
	for file, kind := range []api.Piece{4, 2, 3, 5, 6, 3, 2, 4} {
		want.Pieces[file], want.Pieces[8+file], want.Pieces[48+file], want.Pieces[56+file] = kind, 1, -1, -kind
	}
	want.Castle = 15
	if !same(p, want) || !position.Valid(p) {
		t.Error(p)
	}
	for at := range p.Pieces {
		p.Pieces[at] = 0
	}
	if q := position.Start(); !same(q, want) {
		t.Error("shared:", q)
	}
}

// P6.3

// differences returns changes of one part of a position each; a change does nothing to pieces that are not there.
func differences(p api.Position) (parts, counters []api.Position) {
	change := func(f func(*api.Position)) { parts = append(parts, changed(p, f)) }
	for _, n := range []int{-8, -1, 1, 256, 1 << 32, math.MinInt} {
		change(func(q *api.Position) { q.Size.Files += n })
		change(func(q *api.Position) { q.Size.Ranks += n })
		change(func(q *api.Position) { q.Passant += n })
		counters = append(counters, changed(p, func(q *api.Position) { q.Half += n }), changed(p, func(q *api.Position) { q.Full += n }))
	}
	change(func(q *api.Position) { q.Size.Files++; q.Size.Ranks-- })
	change(func(q *api.Position) { q.Black = !q.Black })
	for bit := range 8 {
		change(func(q *api.Position) { q.Castle ^= 1 << bit })
	}
	for at := range p.Pieces {
		change(func(q *api.Position) { q.Pieces[at]++ })
		change(func(q *api.Position) { q.Pieces[at] -= 16 })
	}
	change(func(q *api.Position) { q.Pieces = append(q.Pieces, 0) })
	if len(p.Pieces) > 0 {
		change(func(q *api.Position) { q.Pieces = q.Pieces[1:] })
		change(func(q *api.Position) { q.Pieces = q.Pieces[:len(q.Pieces)-1] })
	}
	counters = append(counters, changed(p, func(q *api.Position) { q.Half++; q.Full-- }))
	return parts, counters
}

// compared checks what Equal and Same say of two positions, in both directions.
func compared(t *testing.T, p, q api.Position, equal, alike bool) {
	t.Helper()
	if position.Equal(p, q) != equal || position.Equal(q, p) != equal || position.Same(p, q) != alike || position.Same(q, p) != alike {
		t.Fatal(p, q, "are equal:", equal, "the same:", alike)
	}
}

func TestEqualAndSame(t *testing.T) {
	l := append(validOnes(t, 60), notValid()...)
	for i, p := range l {
		before := clone(p)
		compared(t, p, p, true, true)
		compared(t, p, clone(p), true, true)
		parts, counters := differences(p)
		for _, q := range parts {
			compared(t, p, q, false, false)
		}
		for _, q := range counters {
			compared(t, p, q, false, true)
		}
		q := l[(i*7+1)%len(l)]
		compared(t, p, q, same(p, q), same(p, changed(q, func(q *api.Position) { q.Half, q.Full = p.Half, p.Full })))
		if !same(p, before) {
			t.Fatal("was changed:", before, "to", p)
		}
	}
}

// Whether pieces share memory does not matter; only their number and what they are does.
func TestEqualMemory(t *testing.T) {
	memory := []api.Piece{6, 0, 6, 0, 6, 0, 6, 0}
	at := func(from, to int) api.Position {
		return api.Position{Size: api.Size{Files: 3, Ranks: 3}, Pieces: memory[from:to]}
	}
	compared(t, at(0, 4), at(0, 4), true, true)
	compared(t, at(0, 4), at(2, 6), true, true)
	compared(t, at(0, 4), at(1, 5), false, false)
	compared(t, at(0, 4), at(0, 5), false, false)
	compared(t, at(0, 3), at(0, 4), false, false)
	compared(t, at(3, 3), at(0, 0), true, true)
	compared(t, at(3, 3), at(0, 1), false, false)
	empty := at(0, 0)
	empty.Pieces = nil
	compared(t, empty, at(5, 5), true, true)
	compared(t, empty, at(1, 2), false, false)
	compared(t, api.Position{}, api.Position{Pieces: []api.Piece{}}, true, true)
}

func TestCopy(t *testing.T) {
	for _, p := range append(validOnes(t, 60), notValid()...) {
		for _, n := range []int{0, 1, -7, math.MaxInt, math.MinInt} {
			p.Castle, p.Passant, p.Half, p.Full = p.Castle^uint8(n), p.Passant+n, p.Half^n, p.Full-n
			before := clone(p)
			q := position.Copy(p)
			if !same(p, q) || !position.Equal(p, q) || !position.Same(p, q) {
				t.Fatal(p, q)
			}
			for at := range q.Pieces {
				q.Pieces[at]++
			}
			if !same(p, before) {
				t.Fatal("shared:", p)
			}
		}
	}
	if q := position.Copy(api.Position{}); !zero(q) {
		t.Error(q)
	}
}

// P6.4

// parsed checks what Parse says of a text, and returns whether it is that of a valid position.
func parsed(t *testing.T, text string) bool {
	t.Helper()
	want, ok := read(text)
	p, e := position.Parse(text)
	if ok && (e != api.OK || !same(p, want)) || !ok && (e != api.ErrFormat || !zero(p)) {
		t.Fatalf("%q: %v %v, want %v %v", text, p, e, want, ok)
	}
	return ok
}

// texts are those of valid positions with all that a word may be.
var texts = []string{
	usual,
	"3x3 k2/3/2K w - - 0 1",
	"3x6 k2/3/3/Pp1/3/2K w - b4 0 9999",
	"8x8 r3k2r/p6p/8/8/PP6/8/7P/R3K2R b KQkq b3 0 17",
	"8x8 r3k2r/8/8/8/8/8/8/R3K2R b Qk - 149 10000",
	"8x8 4k2r/8/8/8/8/8/8/R3K3 w Qk - 10000 10",
	"5x4 k4/q3n/P2r1/BB1NK w - - 90 100",
	"4x8 n2k/4/4/pppp/4/4/PPP1/K2R w - d6 0 2",
	"7x6 1k5/7/3P3/4p2/7/4KN1 b - d3 0 1",
	"8x3 k7/P2p1p2/7K b - - 101 1001",
}

func TestTexts(t *testing.T) {
	for _, text := range texts {
		p, e := position.Parse(text)
		again, f := position.Text(p)
		if !parsed(t, text) || e != api.OK || f != api.OK || again != text {
			t.Error(text, e, again, f)
		}
	}
}

func TestParseSamples(t *testing.T) {
	for _, p := range validOnes(t, 300) {
		if !parsed(t, textOf(p)) {
			t.Fatal(p)
		}
	}
}

// Each byte of some texts is changed to each other one, left out, doubled, and put in.
func TestParseBytes(t *testing.T) {
	for _, text := range texts {
		for i := range len(text) + 1 {
			for c := range 256 {
				parsed(t, text[:i]+string([]byte{byte(c)})+text[i:])
				if i < len(text) {
					parsed(t, text[:i]+string([]byte{byte(c)})+text[i+1:])
				}
			}
			parsed(t, text[:i])
			parsed(t, text[i:])
			if i < len(text) {
				parsed(t, text[:i]+text[i+1:])
			}
		}
	}
}

// Each word of some texts is left out, emptied, repeated, and changed to each of many, right and wrong ones.
func TestParseWords(t *testing.T) {
	var pool []string
	for _, text := range texts {
		pool = append(pool, strings.Split(text, " ")...)
	}
	pool = append(pool, "", "-", "--", "w", "b", "W", "B", "wb", "white", "x", "3x", "x3", "3X3", "3×3", "33", "3x3x3", "03x3", "3x03", "2x3", "9x9", "3x4", "4x3", "8x8", "0x0", "-3x-3", "+3x3", "18446744073709551619x3",
		"K", "Q", "k", "q", "KQ", "QK", "kq", "qk", "Kq", "qK", "kQ", "KK", "KQkq", "kqKQ", "KQkqK", "-K", "K-", "KQkq-", "A", "a", "HAha",
		"a1", "a3", "b4", "d3", "d6", "b3", "B3", "A3", "i3", "a9", "a0", "a", "3a", "33", "a33", "e3", "h6", "h8",
		"0", "00", "1", "01", "001", "+1", "-0", "-1", "1.", "1.0", "1e1", "0x1", "0b1", "0o1", "1_0", "10_000", "1,000", " 1", "9999", "10000", "10001", "010000", "100000", "65537", "4294967296", "4294967297", "18446744073709551616", "18446744073709551617", "99999999999999999999999", strings.Repeat("0", 400)+"1", strings.Repeat("9", 400), "½", "１", "٣",
		"k2/3/2K", "k2/3/2k", "k2/111/2K", "k2/3/2K/", "/k2/3/2K", "k2//2K", "kk1/3/2K", "k2/3/3K", "k2/3/1K", "a2/3/kK", "kA1/3/2K", "kR1/3/2K", "k2/2N/2K", "K2/3/2k")
	for _, text := range texts {
		words := strings.Split(text, " ")
		for i := range words {
			for _, word := range pool {
				parsed(t, strings.Join(slices.Concat(words[:i], []string{word}, words[i+1:]), " "))
				parsed(t, strings.Join(slices.Concat(words[:i], []string{word}, words[i:]), " "))
			}
			if parsed(t, strings.Join(slices.Concat(words[:i], words[i+1:]), " ")) || parsed(t, strings.Join(slices.Concat(words[:i+1], words[i:]), " ")) {
				t.Error(text, i)
			}
		}
		parsed(t, text+" "+text)
	}
}

// The words of some texts are put in all orders; words that are the same may take each other's places.
func TestParseOrders(t *testing.T) {
	for _, text := range texts {
		words := strings.Split(text, " ")
		count := 0
		permute(words, 0, func() {
			if parsed(t, strings.Join(words, " ")) {
				count++
			}
		})
		if count < 1 || count > 4 {
			t.Error(text, "is right in", count, "orders")
		}
	}
}

// permute puts the words from an index on in all orders, and then in the first one again.
func permute(words []string, from int, f func()) {
	if from == len(words) {
		f()
		return
	}
	for i := from; i < len(words); i++ {
		words[from], words[i] = words[i], words[from]
		permute(words, from+1, f)
		words[from], words[i] = words[i], words[from]
	}
}

// Other spaces than single ones between the words are not allowed, anywhere.
func TestParseSpaces(t *testing.T) {
	for _, text := range texts {
		for _, space := range []string{"  ", "   ", "\t", "\n", "\r\n", "\v", "\u00a0", "\u2003", "\x00", "_", ",", "", " \t", "\t ", "%20"} {
			words := strings.Split(text, " ")
			for i := 1; i < len(words); i++ {
				if parsed(t, strings.Join(words[:i], " ")+space+strings.Join(words[i:], " ")) {
					t.Error(text, i)
				}
			}
			if space != "" && (parsed(t, space+text) || parsed(t, text+space)) || parsed(t, strings.ReplaceAll(text, " ", space)) {
				t.Error(text, space)
			}
		}
		if parsed(t, " "+text) || parsed(t, text+" ") || parsed(t, text+"\n") || parsed(t, strings.ToUpper(text)) || parsed(t, "\ufeff"+text) {
			t.Error(text)
		}
	}
}

// All rights are tried in all positions with kings and rooks, and all letters in all orders.
func TestParseRights(t *testing.T) {
	words := []string{"-"}
	for range 4 {
		for _, word := range slices.Clone(words) {
			for _, letter := range []string{"K", "Q", "k", "q", "-"} {
				if len(word) < 4 {
					words = append(words, word+letter, strings.TrimPrefix(word, "-")+letter)
				}
			}
		}
	}
	slices.Sort(words)
	words = slices.Compact(words)
	for _, c := range []struct {
		board string
		want  int
	}{
		{"r3k2r/8/8/8/8/8/8/R3K2R", 16}, {"4k2r/8/8/8/8/8/8/R3K3", 4}, {"r3k3/8/8/8/8/8/8/4K2R", 4}, {"r3k2r/8/8/8/8/8/8/4K3", 4}, {"r2k3r/8/8/8/8/8/8/R3K2R", 4}, {"r2k4/8/8/8/8/8/8/R3K3", 2}, {"R3K2R/8/8/8/8/8/8/r3k2r", 1},
	} {
		count := 0
		for _, word := range words {
			if parsed(t, "8x8 "+c.board+" w "+word+" - 0 1") {
				count++
			}
		}
		if count != c.want {
			t.Error(c, count)
		}
	}
}

func TestParseCounters(t *testing.T) {
	for n := -3; n <= 10100; n++ {
		text := strconv.Itoa(n)
		if parsed(t, "3x3 k2/3/2K w - - "+text+" 1") != (0 <= n && n <= 10000) || parsed(t, "3x3 k2/3/2K w - - 0 "+text) != (1 <= n && n <= 10000) {
			t.Error(n)
		}
		if parsed(t, "3x3 k2/3/2K w - - 0"+text+" 1") || parsed(t, "3x3 k2/3/2K w - - 0 0"+text) || parsed(t, "3x3 k2/3/2K w - - 0 +"+text) {
			t.Error(n)
		}
	}
}

// A text of one size is not one of any other size.
func TestParseSizes(t *testing.T) {
	for _, s := range sizes() {
		_, text, _ := strings.Cut(textOf(with(s, false, man{0, 6}, man{s.Files*s.Ranks - 1, -6})), " ")
		for files := range 12 {
			for ranks := range 12 {
				size := strconv.Itoa(files) + "x" + strconv.Itoa(ranks)
				if parsed(t, size+" "+text) != (files == s.Files && ranks == s.Ranks) {
					t.Error(size, text)
				}
			}
		}
	}
}

// The name of each square is tried as Passant on all boards.
func TestParsePassant(t *testing.T) {
	for _, s := range sizes() {
		for _, black := range sides {
			p := twoSteps(s, black, s.Files-1)
			for _, file := range "abcdefghij" {
				for rank := range 10 {
					words := strings.Split(textOf(p), " ")
					words[4] = string(file) + strconv.Itoa(rank)
					right := 3
					if !black {
						right = s.Ranks - 2
					}
					want := s.Ranks >= 6 && int(file-'a') == s.Files-1 && rank == right
					if parsed(t, strings.Join(words, " ")) != want {
						t.Error(words, want)
					}
				}
			}
		}
	}
}

func TestParseLong(t *testing.T) {
	for _, piece := range []string{" ", "/", "8", "k", "K", "-", "0", "9", "x", "a1", "k2/3/2K ", "3x3 ", usual + " ", "\xff", "é"} {
		long := strings.Repeat(piece, 1<<20/len(piece))
		for _, text := range []string{long, "3x3 " + long, "3x3 k2/3/2K " + long, usual + long, long + usual, "3x3 k2/3/2K w - - 0 " + long, "3x3 k2/3/2K w - - " + long + " 1", "3x3 k2/3/2K w " + long + " - 0 1", "3x3 " + long + " w - - 0 1"} {
			if p, e := position.Parse(text); e != api.ErrFormat || !zero(p) {
				t.Errorf("%.30q: %v %v", text, p, e)
			}
		}
	}
}

func TestParseMemory(t *testing.T) {
	p, _ := position.Parse(usual)
	for at := range p.Pieces {
		p.Pieces[at] = 0
	}
	if !parsed(t, usual) {
		t.Error("shared")
	}
}

// P6.5

func TestInverses(t *testing.T) {
	for _, p := range validOnes(t, 100) {
		text, e := position.Text(p)
		q, f := position.Parse(text)
		again, g := position.Text(q)
		if !position.Equal(p, q) || again != text || e != api.OK || f != api.OK || g != api.OK {
			t.Fatal(p, text, q, e, f, g)
		}
	}
}

// The board of the position of a board is this board.
func TestBoardOfPosition(t *testing.T) {
	count := 0
	for _, p := range validOnes(t, 100) {
		b := position.Board(p)
		q, e := position.Of(b, p.Black)
		again := position.Board(q)
		if e != api.OK || b.Size != again.Size || !slices.Equal(b.Pieces, again.Pieces) || q.Black != p.Black {
			t.Fatal(p, q, e)
		}
		if p.Castle == 0 && p.Passant == -1 {
			count++
			if !position.Same(p, q) {
				t.Fatal(p, q)
			}
		}
	}
	if count < 100 {
		t.Error("only", count, "positions of their boards")
	}
}

// A valid position is valid without some or all of its rights, and without its Passant.
func TestWithoutRights(t *testing.T) {
	rights, passants := 0, 0
	for _, p := range validOnes(t, 400) {
		for castle := range p.Castle {
			rights++
			if q := changed(p, func(p *api.Position) { p.Castle &= castle }); !position.Valid(q) {
				t.Fatal(q)
			}
		}
		if p.Passant >= 0 {
			passants++
		}
		if q := changed(p, func(p *api.Position) { p.Passant = -1 }); !position.Valid(q) {
			t.Fatal(q)
		}
	}
	if rights < 100 || passants < 100 {
		t.Error("only", rights, "rights and", passants, "squares")
	}
}

func TestExamples(t *testing.T) {
	for _, c := range []struct {
		text string
		want bool
	}{
		{"3x3 k2/3/2K w - - 0 1", true}, {"3x3 kR1/3/2K w - - 0 1", false}, {"3x3 kR1/3/2K b - - 0 1", true}, {"3x3 k2/3/1PK w - - 0 1", true}, {"3x3 kP1/3/2K b - - 0 1", false},
		{"3x6 k2/3/3/P2/3/2K b - a2 0 1", false}, {"3x6 k2/3/3/P2/3/2K b - a3 0 1", false}, {"3x6 k2/3/P2/3/3/2K b - a3 0 1", true}, {"3x6 k2/3/P2/3/3/2K b - a3 1 1", false}, {"3x6 k2/3/P2/3/3/2K w - a3 0 1", false},
		{"8x8 4k3/8/8/8/8/8/8/4K2R w K - 0 1", true}, {"8x8 4k3/8/8/8/8/8/8/4K2R w Q - 0 1", false}, {usual, true},
	} {
		p, e := position.Parse(c.text)
		if parsed(t, c.text) != c.want || position.Valid(p) != c.want || (e == api.OK) != c.want {
			t.Error(c, p, e)
		}
	}
}

// P1 of DOC.md: whatever the arguments are, each function returns, and with an error everything else is zero.
func TestAnyArguments(t *testing.T) {
	var l []api.Position
	for i, n := range numbers {
		pieces := make([]api.Piece, 65*(i%2)+i)
		for at := range pieces {
			pieces[at] = api.Piece(at*i + n)
		}
		for _, s := range append(sizes(), badSizes...) {
			l = append(l, api.Position{Size: s, Pieces: pieces, Black: i%3 == 0, Castle: uint8(n), Passant: n, Half: n, Full: n})
		}
		for _, s := range []api.Size{{Files: n, Ranks: n}, {Files: 8, Ranks: n}, {Files: n, Ranks: 8}} {
			l = append(l, api.Position{Size: s, Pieces: pieces, Castle: uint8(i), Passant: -1, Half: n, Full: 1})
			l = append(l, api.Position{Size: s, Pieces: pieces[:min(64, len(pieces))], Black: true, Castle: 15, Passant: n})
		}
	}
	for _, p := range append(l, notValid()...) {
		checkValid(t, p)
		q := position.Copy(p)
		b := position.Board(p)
		if !position.Equal(p, q) || !position.Same(p, q) || b.Size != p.Size || len(b.Pieces) != len(p.Pieces) {
			t.Fatal(p, q, b)
		}
	}
	// Each number is tried for each part of a position that is valid otherwise.
	for _, text := range texts {
		p := known(t, text)
		for _, n := range numbers {
			checkValid(t, changed(p, func(q *api.Position) { q.Castle = uint8(n) }))
			checkValid(t, changed(p, func(q *api.Position) { q.Passant = n }))
			checkValid(t, changed(p, func(q *api.Position) { q.Half = n }))
			checkValid(t, changed(p, func(q *api.Position) { q.Full = n }))
			checkValid(t, changed(p, func(q *api.Position) { q.Size.Files = n }))
			checkValid(t, changed(p, func(q *api.Position) { q.Size.Ranks = n }))
		}
	}
}
