package attack_test

import (
	"math"
	"slices"
	"strings"
	"testing"

	"caissa/api"
	"caissa/attack"
	"caissa/board"
)

// numbers are at, beside and far beyond every limit of the layer; some are those of squares if only their last bits are looked at.
var numbers = []int{math.MinInt, math.MinInt + 1, math.MinInt + 7, -1<<32 - 1, -1<<32 + 1, math.MinInt32, -257, -255, -65, -64, -9, -2, -1, 0, 1, 2, 7, 8, 9, 11, 12, 16, 32, 62, 63, 64, 65, 127, 255, 256, 257, math.MaxInt32, 1 << 32, 1<<32 + 1, 1 << 62, math.MaxInt - 7, math.MaxInt - 1, math.MaxInt}

// badSizes are sizes that are not valid; the number of squares of some of them is that of a valid one, or overflows to it.
var badSizes = []api.Size{{}, {Files: 2, Ranks: 3}, {Files: 3, Ranks: 2}, {Files: 2, Ranks: 6}, {Files: 6, Ranks: 2}, {Files: 9, Ranks: 3}, {Files: 3, Ranks: 9}, {Files: 1, Ranks: 9}, {Files: 9, Ranks: 1}, {Files: 0, Ranks: 8}, {Files: 8, Ranks: 0}, {Files: -3, Ranks: -3}, {Files: 8, Ranks: -8}, {Files: 1<<62 + 3, Ranks: 4}, {Files: 259, Ranks: 3}, {Files: math.MaxInt, Ranks: math.MaxInt}, {Files: math.MinInt, Ranks: math.MinInt}}

// sides has the two answers to whether Black is meant.
var sides = []bool{false, true}

// sizes returns all valid sizes.
func sizes() []api.Size {
	var l []api.Size
	for files := 3; files <= 8; files++ {
		for ranks := 3; ranks <= 8; ranks++ {
			l = append(l, api.Size{Files: files, Ranks: ranks})
		}
	}
	return l
}

// few returns the sizes with the fewest and the most files and ranks, and some in between, for what takes long.
func few() []api.Size {
	return []api.Size{{Files: 3, Ranks: 3}, {Files: 3, Ranks: 8}, {Files: 8, Ranks: 3}, {Files: 5, Ranks: 6}, {Files: 8, Ranks: 8}}
}

// outside returns numbers that are no squares of a board.
func outside(s api.Size) []int {
	count := s.Files * s.Ranks
	l := []int{count, count + 1, -count}
	for _, n := range numbers {
		if n < 0 || n >= count {
			l = append(l, n)
		}
	}
	return l
}

// man is a piece on a square.
type man struct {
	at int
	p  api.Piece
}

// with returns a board with some pieces; later ones take the places of earlier ones.
func with(s api.Size, men ...man) api.Board {
	b := api.Board{Size: s, Pieces: make([]api.Piece, s.Files*s.Ranks)}
	for _, m := range men {
		b.Pieces[m.at] = m.p
	}
	return b
}

// clone returns the same board in new memory.
func clone(b api.Board) api.Board {
	return api.Board{Size: b.Size, Pieces: append([]api.Piece(nil), b.Pieces...)}
}

// dice gives numbers that look like random ones, always the same.
type dice uint64

func (d *dice) roll(n int) int {
	*d = *d*6364136223846793005 + 1442695040888963407
	return int(uint64(*d)>>33) % n
}

// mixture returns a board on which about one square of some is occupied, with some kings of each side.
func mixture(s api.Size, d *dice, thin, whiteKings, blackKings int) api.Board {
	b := with(s)
	for at := range b.Pieces {
		if d.roll(thin) == 0 {
			b.Pieces[at] = api.Piece(d.roll(5)+1) * api.Piece(1-2*d.roll(2))
		}
	}
	for range whiteKings {
		b.Pieces[d.roll(len(b.Pieces))] = 6
	}
	for range blackKings {
		b.Pieces[d.roll(len(b.Pieces))] = -6
	}
	return b
}

// samples returns boards of a size: without pieces, full of one piece, and mixtures, dense and sparse, mostly with a king of each side.
func samples(s api.Size) []api.Board {
	d := dice(s.Files*10 + s.Ranks)
	l := []api.Board{with(s)}
	for p := api.Piece(-6); p <= 6; p++ {
		b := with(s)
		for at := range b.Pieces {
			b.Pieces[at] = p
		}
		l = append(l, b)
	}
	for thin := 1; thin <= 12; thin++ {
		for range 6 {
			l = append(l, mixture(s, &d, thin, 1, 1))
		}
		for i := range 9 {
			l = append(l, mixture(s, &d, thin, i/3, i%3))
		}
	}
	return l
}

// The definitions of the chapter, written out without the functions of the program.

func magnitude(n int) int { return max(n, -n) }

// apart returns by how many files and ranks a square is away from another one.
func apart(s api.Size, from, to int) (files, ranks int) {
	return to%s.Files - from%s.Files, to/s.Files - from/s.Files
}

// between returns the squares between two squares, and whether they are on a line.
func between(s api.Size, from, to int) ([]int, bool) {
	files, ranks := apart(s, from, to)
	if from == to || files != 0 && ranks != 0 && magnitude(files) != magnitude(ranks) {
		return nil, false
	}
	n := max(magnitude(files), magnitude(ranks))
	var l []int
	for i := 1; i < n; i++ {
		l = append(l, from+(files/n)*i+(ranks/n)*i*s.Files)
	}
	return l, true
}

// attacks tells whether the piece on a square attacks another one.
func attacks(b api.Board, from, to int) bool {
	files, ranks := apart(b.Size, from, to)
	wide, high := magnitude(files), magnitude(ranks)
	switch p := b.Pieces[from]; p {
	case 1:
		return wide == 1 && ranks == 1
	case -1:
		return wide == 1 && ranks == -1
	case 2, -2:
		return wide == 1 && high == 2 || wide == 2 && high == 1
	case 6, -6:
		return max(wide, high) == 1
	case 3, -3:
		return wide == high && free(b, from, to)
	case 4, -4:
		return wide*high == 0 && free(b, from, to)
	case 5, -5:
		return free(b, from, to)
	}
	return false
}

// free tells whether two squares are on a line, and all squares between are empty.
func free(b api.Board, from, to int) bool {
	l, line := between(b.Size, from, to)
	for _, at := range l {
		line = line && b.Pieces[at] == 0
	}
	return line
}

// of tells whether a square has a piece of a side.
func of(b api.Board, at int, black bool) bool {
	return black && b.Pieces[at] < 0 || !black && b.Pieces[at] > 0
}

func attackers(b api.Board, at int, black bool) api.Squares {
	var set api.Squares
	for from := range b.Pieces {
		if of(b, from, black) && attacks(b, from, at) {
			set |= 1 << from
		}
	}
	return set
}

func attacked(b api.Board, black bool) api.Squares {
	var set api.Squares
	for at := range b.Pieces {
		if attackers(b, at, black) != 0 {
			set |= 1 << at
		}
	}
	return set
}

// king returns the king's square of a side, or -1 if it does not have exactly one king.
func king(b api.Board, black bool) int {
	found := -1
	for at, p := range b.Pieces {
		if magnitude(int(p)) != 6 || !of(b, at, black) {
			continue
		}
		if found >= 0 {
			return -1
		}
		found = at
	}
	return found
}

// pins returns the pin line of each pinned piece of a side with a king's square.
func pins(b api.Board, black bool) map[int]api.Squares {
	l := make(map[int]api.Squares)
	home := king(b, black)
	for at := range b.Pieces {
		for by, p := range b.Pieces {
			slides := p == 3 || p == 4 || p == 5 || p == -3 || p == -4 || p == -5
			if at == home || !of(b, at, black) || !slides || !of(b, by, !black) {
				continue
			}
			if line, pinned := pin(b, home, at, by); pinned {
				l[at] = line
			}
		}
	}
	return l
}

// pin tells whether a piece is pinned to a king's square by another one, and the pin line.
func pin(b api.Board, home, at, by int) (api.Squares, bool) {
	squares, _ := between(b.Size, home, by)
	if !slices.Contains(squares, at) {
		return 0, false
	}
	line := api.Squares(1) << by
	for _, to := range squares {
		if to != at && b.Pieces[to] != 0 {
			return 0, false
		}
		if to != at {
			line |= 1 << to
		}
	}
	without := clone(b)
	without.Pieces[at] = 0
	return line, attacks(without, by, home)
}

// unchanged checks that a board is the same as before.
func unchanged(t *testing.T, b, before api.Board) {
	t.Helper()
	if b.Size != before.Size || !slices.Equal(b.Pieces, before.Pieces) {
		t.Fatal("was changed:", before, "to", b)
	}
}

// parse returns the board with a text.
func parse(t *testing.T, text string) api.Board {
	t.Helper()
	b, e := board.Parse(text)
	if e != api.OK {
		t.Fatal(text, e)
	}
	return b
}

// named returns the number of a square with a name.
func named(b api.Board, name string) int {
	return int(name[0]-'a') + b.Size.Files*int(name[1]-'1')
}

// names returns the set of the squares with some names, which are divided by spaces.
func names(b api.Board, text string) api.Squares {
	var set api.Squares
	for _, name := range strings.Fields(text) {
		set |= 1 << named(b, name)
	}
	return set
}

// P5.1

func checkAttacks(t *testing.T, b api.Board) {
	t.Helper()
	before := clone(b)
	for _, black := range sides {
		for at := range b.Pieces {
			want := attackers(b, at, black)
			if set, e := attack.Attackers(b, at, black); set != want || e != api.OK {
				t.Fatal(b, at, black, set, e, "want", want)
			}
		}
		want := attacked(b, black)
		if set, e := attack.Attacked(b, black); set != want || e != api.OK {
			t.Fatal(b, black, set, e, "want", want)
		}
	}
	unchanged(t, b, before)
}

func TestAttacks(t *testing.T) {
	for _, s := range sizes() {
		for _, b := range samples(s) {
			checkAttacks(t, b)
		}
	}
}

// Each piece is tried alone on each square, pawns on every rank among them.
func TestAttacksOfOne(t *testing.T) {
	for _, s := range sizes() {
		for at := range s.Files * s.Ranks {
			for p := api.Piece(1); p <= 6; p++ {
				checkAttacks(t, with(s, man{at, p}))
				checkAttacks(t, with(s, man{at, -p}))
			}
		}
	}
}

// All boards with two pieces are tried on a small board: what is attacked may be empty, or hold a piece of either side.
func TestAttacksOfTwo(t *testing.T) {
	s := api.Size{Files: 3, Ranks: 4}
	for a := range 12 {
		for b := range 12 {
			for p := api.Piece(1); p <= 6; p++ {
				for q := api.Piece(-6); q <= 6; q++ {
					checkAttacks(t, with(s, man{a, p}, man{b, q}))
				}
			}
		}
	}
}

func TestAttackExamples(t *testing.T) {
	for _, c := range []struct {
		board, at    string
		white, black string
	}{
		{"k2/1R1/K2", "a3", "", ""}, {"k2/1R1/K2", "b2", "a1", "a3"}, {"k2/1R1/K2", "b3", "b2", "a3"}, {"k2/1R1/K2", "a2", "a1 b2", "a3"},
		{"3k/2P1/4/K3", "d4", "c3", ""}, {"3k/2P1/4/K3", "b4", "c3", ""}, {"3k/2P1/4/K3", "c4", "", "d4"}, {"3k/2P1/4/K3", "b2", "a1", ""}, {"3k/2P1/4/K3", "d2", "", ""},
		{"rn1/p1P/2B", "a1", "", "b3"}, {"rn1/p1P/2B", "a2", "", "a3"}, {"rn1/p1P/2B", "b3", "c2", "a3"}, {"rn1/p1P/2B", "c1", "", "b3"}, {"rn1/p1P/2B", "b1", "", "a2"}, {"rn1/p1P/2B", "a3", "c1", ""},
		{"3/3/3", "b2", "", ""}, {"P1p/3/P1p", "b3", "", ""}, {"P1p/3/P1p", "b2", "a1", "c3"}, {"P1p/3/P1p", "b1", "", ""},
		{"KK1/3/1kk", "b2", "a3 b3", "b1 c1"}, {"Q2/1r1/2q", "c1", "", ""}, {"Q2/1r1/2q", "a3", "", ""}, {"Q2/1r1/2q", "b2", "a3", "c1"}, {"Q2/1r1/2q", "c3", "a3", "c1"}, {"Q2/1r1/2q", "a1", "a3", "c1"},
	} {
		b := parse(t, c.board)
		white, e := attack.Attackers(b, named(b, c.at), false)
		black, f := attack.Attackers(b, named(b, c.at), true)
		if white != names(b, c.white) || black != names(b, c.black) || e != api.OK || f != api.OK {
			t.Error(c, white, black, e, f)
		}
	}
	for _, c := range []struct{ board, white, black string }{
		{"k2/1R1/K2", "a2 b1 b2 b3 c2", "a2 b2 b3"}, {"3/3/3", "", ""}, {"3k/2P1/4/K3", "a2 b1 b2 b4 d4", "c3 c4 d3"},
		{"2P/1p1/p2", "", "a1 c1"}, {"KK1/3/1kk", "a2 a3 b2 b3 c2 c3", "a1 a2 b1 b2 c1 c2"}, {"1n1/3/1N1", "a3 c3", "a1 c1"},
	} {
		b := parse(t, c.board)
		white, e := attack.Attacked(b, false)
		black, f := attack.Attacked(b, true)
		if white != names(b, c.white) || black != names(b, c.black) || e != api.OK || f != api.OK {
			t.Error(c, white, black, e, f)
		}
	}
}

// notOrthodox returns boards that are not valid, or have fairy pieces.
func notOrthodox() []api.Board {
	l := []api.Board{{}, {Pieces: make([]api.Piece, 9)}}
	for _, s := range badSizes {
		count := int(uint64(s.Files) * uint64(s.Ranks) % 128)
		for _, n := range []int{0, 1, 9, 12, 64, count} {
			l = append(l, api.Board{Size: s, Pieces: make([]api.Piece, n)})
		}
	}
	for _, s := range sizes() {
		count := s.Files * s.Ranks
		for _, n := range []int{0, 1, count - 1, count + 1, 2 * count, count + 256} {
			l = append(l, api.Board{Size: s, Pieces: make([]api.Piece, n)})
		}
		for at := range count {
			n := 7 + at%9
			l = append(l, with(s, man{at, api.Piece(n)}), with(s, man{at, api.Piece(-n)}))
			l = append(l, with(s, man{0, 6}, man{2, -6}, man{at, 7}), with(s, man{0, 6}, man{2, -6}, man{at, -15}))
		}
	}
	for n := math.MinInt8; n <= math.MaxInt8; n++ {
		if n < -6 || n > 6 {
			s := api.Size{Files: 4, Ranks: 3}
			l = append(l, with(s, man{n & 3, api.Piece(n)}), with(s, man{1, 6}, man{3, 2}, man{7, -6}, man{11, api.Piece(n)}))
		}
	}
	return l
}

// refused checks that all functions refuse a board and a number with ErrArg.
func refused(t *testing.T, b api.Board, at int) {
	t.Helper()
	for _, black := range sides {
		if set, e := attack.Attackers(b, at, black); set != 0 || e != api.ErrArg {
			t.Error("Attackers", b, at, black, set, e)
		}
	}
	if set, e := attack.Line(b, at); set != 0 || e != api.ErrArg {
		t.Error("Line", b, at, set, e)
	}
}

// refusedBoard checks that all functions refuse a board with ErrArg.
func refusedBoard(t *testing.T, b api.Board) {
	t.Helper()
	for _, at := range []int{0, 1, 7, 8, -1, 64, math.MinInt, math.MaxInt} {
		refused(t, b, at)
	}
	for _, black := range sides {
		if set, e := attack.Attacked(b, black); set != 0 || e != api.ErrArg {
			t.Error("Attacked", b, black, set, e)
		}
		if at, e := attack.King(b, black); at != 0 || e != api.ErrArg {
			t.Error("King", b, black, at, e)
		}
		if set, e := attack.Checkers(b, black); set != 0 || e != api.ErrArg {
			t.Error("Checkers", b, black, set, e)
		}
		if set, e := attack.Pinned(b, black); set != 0 || e != api.ErrArg {
			t.Error("Pinned", b, black, set, e)
		}
	}
}

func TestNotOrthodox(t *testing.T) {
	for _, b := range notOrthodox() {
		before := clone(b)
		refusedBoard(t, b)
		unchanged(t, b, before)
	}
}

// Numbers that are no squares are refused on all boards, those without a king too: ErrArg comes before ErrNone.
func TestNoSquares(t *testing.T) {
	for _, s := range sizes() {
		for _, at := range outside(s) {
			refused(t, with(s), at)
			refused(t, with(s, man{0, 6}, man{1, 3}, man{2, -4}, man{8, -6}), at)
			refused(t, with(s, man{0, 6}, man{1, 6}, man{2, -6}, man{8, -6}), at)
		}
	}
}

// P5.2

func checkKings(t *testing.T, b api.Board) {
	t.Helper()
	before := clone(b)
	for _, black := range sides {
		want, wantSet, wantE := king(b, black), api.Squares(0), api.OK
		if want < 0 {
			want, wantE = 0, api.ErrNone
		} else {
			wantSet = attackers(b, want, !black)
		}
		if at, e := attack.King(b, black); at != want || e != wantE {
			t.Fatal(b, black, at, e, "want", want, wantE)
		}
		if set, e := attack.Checkers(b, black); set != wantSet || e != wantE {
			t.Fatal(b, black, set, e, "want", wantSet, wantE)
		}
	}
	unchanged(t, b, before)
}

func TestKings(t *testing.T) {
	for _, s := range sizes() {
		for _, b := range samples(s) {
			checkKings(t, b)
		}
	}
}

// All boards are tried that have up to two kings of each side on a small one, and a king and any piece on all.
func TestKingsEverywhere(t *testing.T) {
	s := api.Size{Files: 3, Ranks: 3}
	for i := range 9 * 9 * 9 * 9 {
		checkKings(t, with(s, man{i % 9, 6}, man{i / 9 % 9, 6}, man{i / 81 % 9, -6}, man{i / 729, -6}))
	}
	for _, s := range sizes() {
		for home := range s.Files * s.Ranks {
			for at := range s.Files * s.Ranks {
				p := api.Piece((home*at+at)%5 + 1)
				checkKings(t, with(s, man{at, -p}, man{home, 6}))
				checkKings(t, with(s, man{at, p}, man{home, -6}))
			}
		}
	}
}

func TestKingExamples(t *testing.T) {
	for _, c := range []struct {
		board    string
		black    bool
		king     string
		checkers string
	}{
		{"3k/2P1/4/K3", false, "a1", ""}, {"3k/2P1/4/K3", true, "d4", "c3"}, {"k2/1R1/K2", true, "a3", ""}, {"4k/5/4r/4B/4K", false, "e1", ""}, {"4k/4q/5/4N/4K", false, "e1", ""},
		{"3k/2p1/4/K3", true, "d4", ""}, {"4/4/1p2/K3", false, "a1", "b2"}, {"4/4/1P2/k3", true, "a1", ""}, {"4/4/4/Kp2", false, "a1", ""},
		{"r3/1n2/4/K2k", false, "a1", "a4 b3"}, {"4k/3P1/2N2/1B3/K3R", true, "e5", "e1 d4"}, {"k1q/3/r1K", false, "c1", "a1 c3"}, {"k2/1K1/3", false, "b2", "a3"}, {"k2/1K1/3", true, "a3", "b2"},
		{"qqq/q1q/K1q", false, "a1", "a2 c1 c3"}, {"nnnnn/n3n/n1K1n/n3n/nnnnn", false, "c3", "b5 d5 a4 e4 a2 e2 b1 d1"}, {"b4/1P3/2K2/5/5", false, "c3", ""},
	} {
		b := parse(t, c.board)
		at, e := attack.King(b, c.black)
		set, f := attack.Checkers(b, c.black)
		if at != named(b, c.king) || set != names(b, c.checkers) || e != api.OK || f != api.OK {
			t.Error(c, at, set, e, f)
		}
	}
}

// Sides with no king or with several ones have no king's square, whatever the other side has.
func TestNoKing(t *testing.T) {
	for _, c := range []struct {
		board string
		black bool
	}{
		{"4/4/4/K2K", false}, {"4/4/4/K2K", true}, {"3/3/3", false}, {"3/3/3", true}, {"3/3/2K", true}, {"3/3/2k", false}, {"k1k/3/2K", true}, {"kkk/3/KKK", false}, {"qqq/qqq/kqq", false}, {"QQQ/QQQ/KQQ", true}, {"PNBRQ/5/5/5/k4", false}, {"pnbrq/5/5/5/K4", true},
	} {
		noKing(t, parse(t, c.board), c.black)
	}
	for _, s := range sizes() {
		for at := range s.Files*s.Ranks - 1 {
			noKing(t, with(s, man{at, 6}), true)
			noKing(t, with(s, man{at, -6}), false)
			noKing(t, with(s, man{at, 6}, man{at + 1, 6}), false)
			noKing(t, with(s, man{at, -6}, man{at + 1, -6}), true)
		}
	}
}

// noKing checks the errors for a side that does not have exactly one king.
func noKing(t *testing.T, b api.Board, black bool) {
	t.Helper()
	if at, e := attack.King(b, black); at != 0 || e != api.ErrNone {
		t.Error("King", b, black, at, e)
	}
	if set, e := attack.Checkers(b, black); set != 0 || e != api.ErrNone {
		t.Error("Checkers", b, black, set, e)
	}
	if set, e := attack.Pinned(b, black); set != 0 || e != api.ErrNone {
		t.Error("Pinned", b, black, set, e)
	}
	for at := range b.Pieces {
		if set, e := attack.Line(b, at); (of(b, at, black) || b.Pieces[at] == 0) && (set != 0 || e != api.ErrNone) {
			t.Error("Line", b, at, set, e)
		}
	}
}

// P5.3

func checkPins(t *testing.T, b api.Board) {
	t.Helper()
	before := clone(b)
	lines := make(map[int]api.Squares)
	for _, black := range sides {
		var want api.Squares
		wantE := api.ErrNone
		if king(b, black) >= 0 {
			wantE = api.OK
			for at, line := range pins(b, black) {
				lines[at] = line
				want |= 1 << at
			}
		}
		if set, e := attack.Pinned(b, black); set != want || e != wantE {
			t.Fatal(b, black, set, e, "want", want, wantE)
		}
	}
	for at := range b.Pieces {
		want, pinned := lines[at]
		wantE := api.ErrNone
		if pinned {
			wantE = api.OK
		}
		if line, e := attack.Line(b, at); line != want || e != wantE {
			t.Fatal(b, at, line, e, "want", want, wantE)
		}
	}
	unchanged(t, b, before)
}

func TestPins(t *testing.T) {
	for _, s := range sizes() {
		for _, b := range samples(s) {
			checkPins(t, b)
		}
	}
}

// All boards are tried that have a king, a piece and a piece of the other side on a small board.
func TestPinsOfThree(t *testing.T) {
	s := api.Size{Files: 3, Ranks: 4}
	for home := range 12 {
		for at := range 12 {
			for by := range 12 {
				for p := api.Piece(-6); p <= 6; p++ {
					for q := api.Piece(1); q <= 6; q++ {
						checkPins(t, with(s, man{at, p}, man{by, -q}, man{home, 6}))
						checkPins(t, with(s, man{at, p}, man{by, q}, man{home, -6}))
					}
				}
			}
		}
	}
}

// slides tells whether a piece of a kind attacks along a line with some files and ranks.
func slides(kind api.Piece, files, ranks int) bool {
	straight := files == 0 || ranks == 0
	return kind == 5 || kind == 4 && straight || kind == 3 && !straight
}

// checkPin checks what there is between a king and another piece of the other side, with one piece of a kind on each of some squares.
func checkPin(t *testing.T, s api.Size, home, by int, kind, sign api.Piece, squares []int) {
	t.Helper()
	files, ranks := apart(s, home, by)
	line := api.Squares(1) << by
	for _, at := range squares {
		line |= 1 << at
	}
	for i, at := range squares {
		for p := api.Piece(-6); p <= 5; p++ {
			if p == 0 {
				continue
			}
			// A piece of the king's side is pinned if it stands alone and the other piece slides along the line.
			b := with(s, man{home, 6 * sign}, man{by, -kind * sign}, man{at, p * sign})
			checkLine(t, b, at, sign < 0, p > 0 && slides(kind, files, ranks), line&^(1<<at))
			other := squares[(i+1)%len(squares)]
			if other == at || p < 0 {
				continue
			}
			// With a second piece between nothing is pinned; a pawn or a knight does not pin by itself.
			b.Pieces[other] = api.Piece((at+other)%2+1) * api.Piece(1-2*(at%2))
			checkLine(t, b, at, sign < 0, false, 0)
		}
	}
}

// checkLine checks whether a piece is the only pinned one of a side, and its pin line.
func checkLine(t *testing.T, b api.Board, at int, black, pinned bool, line api.Squares) {
	t.Helper()
	want, wantE := api.Squares(1)<<at, api.OK
	if !pinned {
		want, line, wantE = 0, 0, api.ErrNone
	}
	if set, e := attack.Pinned(b, black); set != want || e != api.OK {
		t.Fatal(b, black, set, e, "want", want)
	}
	if set, e := attack.Line(b, at); set != line || e != wantE {
		t.Fatal(b, at, set, e, "want", line, wantE)
	}
}

// All pairs of squares on a line are tried, with all pieces on each square between, and with a second one there.
func TestPinsEverywhere(t *testing.T) {
	for _, s := range sizes() {
		for home := range s.Files * s.Ranks {
			for by := range s.Files * s.Ranks {
				squares, _ := between(s, home, by)
				for kind := api.Piece(1); kind <= 5; kind++ {
					checkPin(t, s, home, by, kind, 1, squares)
					checkPin(t, s, home, by, kind, -1, squares)
				}
			}
		}
	}
}

func TestPinExamples(t *testing.T) {
	for _, c := range []struct {
		board  string
		black  bool
		pinned string
		at     string
		line   string
	}{
		{"4k/5/4r/4B/4K", false, "e2", "e2", "e3"}, {"4k/4q/5/4N/4K", false, "e2", "e2", "e3 e4"},
		{"q3k/5/5/P4/K4", false, "a2", "a2", "a3 a4 a5"}, {"q3k/5/P4/5/K4", false, "a3", "a3", "a2 a4 a5"}, {"q3k/P4/5/5/K4", false, "a4", "a4", "a2 a3 a5"},
		{"r1R1k/5/5/5/K4", true, "", "c5", ""}, {"K1r1Q/5/5/5/k4", true, "", "c5", ""}, {"k1r1Q/5/5/5/K4", true, "c5", "c5", "b5 d5 e5"},
		{"k3/1b2/2B1/3K", true, "b3", "b3", "c2"}, {"k3/1b2/2B1/3K", false, "c2", "c2", "b3"}, {"k3/1q2/2B1/3K", false, "c2", "c2", "b3"}, {"k3/1q2/2B1/3K", true, "b3", "b3", "c2"},
		{"3/KQk/3", false, "", "b2", ""}, {"KQq/3/2k", false, "b3", "b3", "c3"}, {"KQb/3/2k", false, "", "b3", ""}, {"KQn/3/2k", false, "", "b3", ""}, {"KPp/3/2k", false, "", "b3", ""},
		{"r2q/1NP1/KRrk/4", false, "b2", "b2", "c2"},
		{"qqq/PNB/KRq", false, "a2 b1 b2", "b1", "c1"}, {"qqq/PNB/KRq", false, "a2 b1 b2", "b2", "c3"}, {"qqq/PNB/KRq", false, "a2 b1 b2", "a2", "a3"}, {"qqq/PNB/KRq", false, "a2 b1 b2", "c2", ""},
		{"k4/5/2K2/2R2/2r2", false, "c2", "c2", "c1"}, {"k4/5/2K2/2r2/2R2", false, "", "c2", ""},
	} {
		b := parse(t, c.board)
		set, e := attack.Pinned(b, c.black)
		line, f := attack.Line(b, named(b, c.at))
		if set != names(b, c.pinned) || line != names(b, c.line) || e != api.OK || (f == api.OK) != (c.line != "") {
			t.Error(c, set, line, e, f)
		}
	}
}

// There is no line from squares without a pinned piece, or for a side without a king's square; the other side does not matter.
func TestNoLine(t *testing.T) {
	for _, c := range []struct {
		board, at string
		want      api.Errno
	}{
		{"4k/4q/5/4N/4K", "e1", api.ErrNone}, {"4k/4q/5/4N/4K", "e5", api.ErrNone}, {"4k/4q/5/4N/4K", "e4", api.ErrNone}, {"4k/4q/5/4N/4K", "e3", api.ErrNone}, {"4k/4q/5/4N/4K", "a1", api.ErrNone}, {"4k/4q/5/4N/4K", "e2", api.OK},
		{"4k/4q/5/4N/K3K", "e2", api.ErrNone}, {"4k/4q/5/4N/5", "e2", api.ErrNone}, {"5/4q/5/4N/4K", "e2", api.OK}, {"k3k/4q/5/4N/4K", "e2", api.OK}, {"k3k/4q/5/4N/4K", "e4", api.ErrNone}, {"5/4q/5/4N/4K", "e4", api.ErrNone}, {"5/4q/5/4N/4K", "b2", api.ErrNone}, {"4k/4n/5/4R/5", "e4", api.OK}, {"4k/4n/5/4R/K1K2", "e4", api.OK}, {"4k/4n/5/4R/K1K2", "c3", api.ErrNone},
	} {
		b := parse(t, c.board)
		if set, e := attack.Line(b, named(b, c.at)); e != c.want || e != api.OK && set != 0 {
			t.Error(c, set, e)
		}
	}
}

// P5.4

func TestAttackedJustIfAttackers(t *testing.T) {
	for _, s := range sizes() {
		for _, b := range samples(s) {
			for _, black := range sides {
				all, e := attack.Attacked(b, black)
				for at := range b.Pieces {
					set, f := attack.Attackers(b, at, black)
					if all>>at&1 == 1 != (set != 0) || e != api.OK || f != api.OK {
						t.Fatal(b, black, at, all, set, e, f)
					}
				}
			}
		}
	}
}

// checkers returns the checkers of a side after changes of a board.
func checkers(t *testing.T, b api.Board, black bool, changes ...man) api.Squares {
	t.Helper()
	e := api.OK
	for _, m := range changes {
		b, e = board.Put(b, m.at, m.p)
		if e != api.OK {
			t.Fatal(b, m, e)
		}
	}
	set, e := attack.Checkers(b, black)
	if e != api.OK {
		t.Fatal(b, black, changes, e)
	}
	return set
}

// Pinned pieces may go along their lines and nowhere else, all others of the side may be taken off.
func TestPinnedOrNot(t *testing.T) {
	pinned := 0
	for _, s := range sizes() {
		for _, b := range samples(s) {
			for _, black := range sides {
				if king(b, black) >= 0 {
					pinned += takeOff(t, b, black)
				}
			}
		}
	}
	if pinned < 500 {
		t.Error("only", pinned, "pinned pieces")
	}
}

// takeOff takes each piece of a side but its king off a board, and returns how many of them are pinned.
func takeOff(t *testing.T, b api.Board, black bool) int {
	t.Helper()
	before := checkers(t, b, black)
	set, e := attack.Pinned(b, black)
	if e != api.OK {
		t.Fatal(b, black, e)
	}
	count := 0
	for at, p := range b.Pieces {
		if !of(b, at, black) || at == king(b, black) {
			continue
		}
		after := checkers(t, b, black, man{at, 0})
		if set>>at&1 == 0 {
			if after != before {
				t.Fatal(b, black, at, "is not pinned, but", before, after)
			}
			continue
		}
		count++
		by := after &^ before
		if before&^after != 0 || by == 0 || by&(by-1) != 0 {
			t.Fatal(b, black, at, "is pinned, but", before, after)
		}
		alongLine(t, b, black, man{at, p}, by)
	}
	return count
}

// alongLine checks that a pinned piece shields its king just on its own square and those of its line.
func alongLine(t *testing.T, b api.Board, black bool, m man, by api.Squares) {
	t.Helper()
	line, e := attack.Line(b, m.at)
	if e != api.OK || line&by == 0 {
		t.Fatal(b, m, line, by, e)
	}
	for to := range b.Pieces {
		if to == m.at || to == king(b, black) {
			continue
		}
		check := checkers(t, b, black, man{m.at, 0}, man{to, m.p})&by != 0
		if check == (line>>to&1 == 1) {
			t.Fatal(b, black, m, to, line, by)
		}
	}
}

// P1 of DOC.md: whatever the arguments are, each function returns, and with an error everything else is zero.
func TestAnyArguments(t *testing.T) {
	var all []api.Board
	for _, s := range few() {
		all = append(all, samples(s)...)
	}
	all = append(all, notOrthodox()...)
	for i, n := range numbers {
		pieces := make([]api.Piece, 65*(i%2)+i)
		for at := range pieces {
			pieces[at] = api.Piece(at*i + n)
		}
		all = append(all, api.Board{Size: api.Size{Files: n, Ranks: n}, Pieces: pieces}, api.Board{Size: api.Size{Files: 3, Ranks: n}, Pieces: pieces}, api.Board{Size: api.Size{Files: n, Ranks: 8}, Pieces: pieces})
	}
	zero := func(b api.Board, set api.Squares, e api.Errno) {
		t.Helper()
		if e != api.OK && set != 0 {
			t.Error(b, set, e)
		}
	}
	for _, b := range all {
		for _, black := range sides {
			anySide(t, b, black)
			for _, at := range numbers {
				set, e := attack.Attackers(b, at, black)
				zero(b, set, e)
			}
		}
		for _, at := range numbers {
			set, e := attack.Line(b, at)
			zero(b, set, e)
		}
	}
}

func anySide(t *testing.T, b api.Board, black bool) {
	t.Helper()
	if set, e := attack.Attacked(b, black); e != api.OK && (set != 0 || e != api.ErrArg) {
		t.Error(b, black, set, e)
	}
	at, e := attack.King(b, black)
	checks, f := attack.Checkers(b, black)
	pinned, g := attack.Pinned(b, black)
	if e != f || e != g || e != api.OK && (at != 0 || checks != 0 || pinned != 0) {
		t.Error(b, black, at, checks, pinned, e, f, g)
	}
}
