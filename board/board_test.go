package board_test

import (
	"math"
	"slices"
	"strings"
	"testing"

	"caissa/api"
	"caissa/board"
	"caissa/piece"
	"caissa/square"
)

// letters has the letter of White of each kind, written out.
const letters = "PNBRQKACDEFGHIJ"

// badSizes are sizes that are not valid; the number of squares of some of them is that of a valid one, or overflows to it.
var badSizes = []api.Size{{}, {Files: 2, Ranks: 3}, {Files: 3, Ranks: 2}, {Files: 2, Ranks: 6}, {Files: 6, Ranks: 2}, {Files: 9, Ranks: 3}, {Files: 3, Ranks: 9}, {Files: 1, Ranks: 9}, {Files: 9, Ranks: 1}, {Files: 12, Ranks: 1}, {Files: 0, Ranks: 8}, {Files: 8, Ranks: 0}, {Files: -3, Ranks: -3}, {Files: -3, Ranks: 3}, {Files: 1<<62 + 3, Ranks: 4}, {Files: 259, Ranks: 3}, {Files: math.MaxInt, Ranks: math.MaxInt}, {Files: math.MinInt, Ranks: math.MinInt}}

// sizes returns all valid sizes.
func sizes() []api.Size {
	var l []api.Size
	for files := 3; files <= 8; files++ {
		for ranks := 3; ranks <= 8; ranks++ {
			l = append(l, api.Size{Files: files, Ranks: ranks})
		}
	}
	return l
}

// pieces returns 0 and the numbers of all pieces.
func pieces() []api.Piece {
	l := []api.Piece{0}
	for n := api.Piece(1); n <= 15; n++ {
		l = append(l, n, -n)
	}
	return l
}

// beyond returns all numbers that are neither those of pieces nor 0.
func beyond() []api.Piece {
	l := []api.Piece{-128}
	for n := 16; n <= 127; n++ {
		l = append(l, api.Piece(n), api.Piece(-n))
	}
	return l
}

// filled returns a board with the pieces that a function tells for the squares.
func filled(s api.Size, f func(at int) api.Piece) api.Board {
	b := api.Board{Size: s, Pieces: make([]api.Piece, s.Files*s.Ranks)}
	for at := range b.Pieces {
		b.Pieces[at] = f(at)
	}
	return b
}

// samples returns boards of a size: without pieces, full of one piece, with one piece, with one empty square, and with all pieces in turn, densely and sparsely.
func samples(s api.Size) []api.Board {
	all := pieces()
	var l []api.Board
	for i, p := range all {
		l = append(l, filled(s, func(int) api.Piece { return p }))
		l = append(l, filled(s, func(at int) api.Piece { return all[(at+i)%len(all)] }))
		l = append(l, filled(s, func(at int) api.Piece { return all[at*at%7*(i+at)*5%len(all)] }))
		l = append(l, filled(s, func(at int) api.Piece { return only(at%(i+2) == i, all[(at+i)%len(all)]) }))
	}
	for one := range s.Files * s.Ranks {
		l = append(l, filled(s, func(at int) api.Piece { return only(at == one, -1) }))
		l = append(l, filled(s, func(at int) api.Piece { return only(at != one, 15) }))
	}
	return l
}

func only(there bool, p api.Piece) api.Piece {
	if !there {
		return 0
	}
	return p
}

// invalid returns boards that are not valid: of sizes that are not, with too few or too many pieces, with numbers that are no piece.
func invalid() []api.Board {
	l := []api.Board{{}, {Pieces: make([]api.Piece, 9)}}
	for _, s := range badSizes {
		count := int(uint64(s.Files) * uint64(s.Ranks) % 128)
		for _, n := range []int{0, 1, 9, 12, 64, count} {
			l = append(l, api.Board{Size: s, Pieces: make([]api.Piece, n)})
		}
	}
	for _, s := range sizes() {
		count := s.Files * s.Ranks
		for _, n := range []int{0, 1, count - s.Files, count - 1, count + 1, count + s.Files, 2 * count, count + 256} {
			l = append(l, api.Board{Size: s, Pieces: make([]api.Piece, n)})
		}
		l = append(l, api.Board{Size: s})
	}
	for _, p := range beyond() {
		s := api.Size{Files: 4, Ranks: 3}
		for one := range 12 {
			l = append(l, filled(s, func(at int) api.Piece { return only(at == one, p) }))
		}
	}
	return l
}

// same reports whether two boards are the same, without the functions of the package.
func same(a, b api.Board) bool {
	if a.Size.Files != b.Size.Files || a.Size.Ranks != b.Size.Ranks || len(a.Pieces) != len(b.Pieces) {
		return false
	}
	for at := range a.Pieces {
		if a.Pieces[at] != b.Pieces[at] {
			return false
		}
	}
	return true
}

// clone returns the same board in new memory, without the functions of the package.
func clone(b api.Board) api.Board {
	return api.Board{Size: b.Size, Pieces: append([]api.Piece(nil), b.Pieces...)}
}

func zero(b api.Board) bool { return b.Size == api.Size{} && len(b.Pieces) == 0 }

// P3.1

func TestValid(t *testing.T) {
	for _, s := range sizes() {
		for _, b := range samples(s) {
			if !board.Valid(b) {
				t.Error(b, "is valid")
			}
		}
	}
	for _, b := range invalid() {
		if board.Valid(b) {
			t.Error(b, "is not valid")
		}
	}
}

// Each number of the type is tried on each square of boards of all sizes.
func TestValidPieces(t *testing.T) {
	for _, s := range sizes() {
		b := filled(s, func(int) api.Piece { return 0 })
		for at := range b.Pieces {
			for n := math.MinInt8; n <= math.MaxInt8; n++ {
				b.Pieces[at] = api.Piece(n)
				if board.Valid(b) != (-15 <= n && n <= 15) {
					t.Error(s, at, n)
				}
			}
			b.Pieces[at] = 0
		}
	}
}

// Each number of pieces is tried with each size from 0 to 10 files and ranks.
func TestValidCounts(t *testing.T) {
	for n := range 110 {
		for i := range 11 * 11 {
			b := api.Board{Size: api.Size{Files: i / 11, Ranks: i % 11}, Pieces: make([]api.Piece, n)}
			if want := slices.Contains(sizes(), b.Size) && n == b.Size.Files*b.Size.Ranks; board.Valid(b) != want {
				t.Error(b.Size, n, "want", want)
			}
		}
	}
}

func TestEqual(t *testing.T) {
	for _, s := range sizes() {
		l := samples(s)
		for i, a := range l {
			for _, b := range []api.Board{l[(i*i+3)%len(l)], l[(i+1)%len(l)], l[i], clone(a)} {
				if want := same(a, b); board.Equal(a, b) != want || board.Equal(b, a) != want {
					t.Error(a, b, "want", want)
				}
			}
		}
	}
	l := invalid()
	for i, a := range l {
		if !board.Equal(a, a) || !board.Equal(a, clone(a)) {
			t.Error(a, "is equal to itself")
		}
		if b := l[(i+1)%len(l)]; board.Equal(a, b) != same(a, b) {
			t.Error(a, b, "want", same(a, b))
		}
	}
}

// Boards that differ in one thing alone are not equal: a side, a piece, the order of pieces, or how many there are.
func TestEqualDiffers(t *testing.T) {
	for _, s := range sizes() {
		a := filled(s, func(at int) api.Piece { return api.Piece(at%31 - 15) })
		for at := range a.Pieces {
			b := clone(a)
			b.Pieces[at] = -b.Pieces[at] - 1
			differ(t, a, b)
		}
		swapped := clone(a)
		swapped.Pieces[0], swapped.Pieces[1] = a.Pieces[1], a.Pieces[0]
		differ(t, a, swapped)
		differ(t, a, api.Board{Size: s, Pieces: a.Pieces[:len(a.Pieces)-1]})
		differ(t, a, api.Board{Size: s, Pieces: append(slices.Clone(a.Pieces), 0)})
		differ(t, a, api.Board{Size: s})
		differ(t, a, api.Board{Size: api.Size{Files: s.Files, Ranks: s.Ranks + 1}, Pieces: a.Pieces})
		differ(t, a, api.Board{Size: api.Size{Files: s.Files - 1, Ranks: s.Ranks}, Pieces: a.Pieces})
		if s.Files != s.Ranks {
			differ(t, a, api.Board{Size: api.Size{Files: s.Ranks, Ranks: s.Files}, Pieces: a.Pieces})
		}
	}
	if !board.Equal(api.Board{}, api.Board{Pieces: []api.Piece{}}) {
		t.Error("nil and empty slices are equivalent")
	}
}

func differ(t *testing.T, a, b api.Board) {
	t.Helper()
	if board.Equal(a, b) || board.Equal(b, a) {
		t.Error(a, b, "are not equal")
	}
}

func TestCopy(t *testing.T) {
	l := invalid()
	for _, s := range sizes() {
		l = append(l, samples(s)...)
	}
	for _, b := range l {
		before := clone(b)
		c := board.Copy(b)
		if !same(c, before) || !board.Equal(c, b) {
			t.Error(b, c)
		}
		for at := range c.Pieces {
			c.Pieces[at] += 7
		}
		if !same(b, before) {
			t.Error("changing the copy changed", before)
		}
		c = board.Copy(b)
		for at := range b.Pieces {
			b.Pieces[at] += 7
		}
		if !same(c, before) {
			t.Error("changing the board changed the copy of", before)
		}
	}
}

// What is appended to a copy does not come into the memory behind the board's pieces, nor the other way round.
func TestCopyAppended(t *testing.T) {
	for _, n := range []int{0, 3, 9} {
		memory := make([]api.Piece, 20)
		b := api.Board{Size: api.Size{Files: 3, Ranks: 3}, Pieces: memory[:n]}
		c := board.Copy(b)
		c.Pieces = append(c.Pieces, 5)
		b.Pieces = append(b.Pieces, 4)
		if memory[n] != 4 || c.Pieces[n] != 5 {
			t.Error(n, memory, c)
		}
	}
}

// P3.2

func TestEmpty(t *testing.T) {
	for _, s := range sizes() {
		b, e := board.Empty(s)
		if e != api.OK || !same(b, api.Board{Size: s, Pieces: make([]api.Piece, s.Files*s.Ranks)}) {
			t.Error(s, b, e)
		}
		b.Pieces[0] = 1
		if again, _ := board.Empty(s); again.Pieces[0] != 0 {
			t.Error(s, "shares memory with an earlier result")
		}
	}
	for _, s := range badSizes {
		if b, e := board.Empty(s); e != api.ErrArg || !zero(b) {
			t.Error(s, b, e)
		}
	}
}

func TestPut(t *testing.T) {
	for _, s := range sizes() {
		for _, b := range samples(s)[:20] {
			before := clone(b)
			for at := range b.Pieces {
				for _, p := range pieces() {
					want := filled(s, func(i int) api.Piece { return b.Pieces[i] })
					want.Pieces[at] = p
					if got, e := board.Put(b, at, p); e != api.OK || !same(got, want) || !same(b, before) {
						t.Fatal(b, at, p, got, e)
					}
				}
			}
		}
	}
}

// A board and the one that Put returns share no memory, even if they are equal.
func TestPutMemory(t *testing.T) {
	for _, s := range sizes() {
		a := filled(s, func(at int) api.Piece { return api.Piece(at%31 - 15) })
		before := clone(a)
		b, e := board.Put(a, 4, a.Pieces[4])
		if e != api.OK || !same(b, before) {
			t.Fatal(a, b, e)
		}
		for at := range b.Pieces {
			b.Pieces[at] = 3
		}
		if !same(a, before) {
			t.Error("changing the result changed", before)
		}
	}
	memory := make([]api.Piece, 20)
	b, _ := board.Put(api.Board{Size: api.Size{Files: 3, Ranks: 3}, Pieces: memory[:9]}, 8, 1)
	b.Pieces = append(b.Pieces, 5)
	if slices.Max(memory) != 0 {
		t.Error(memory)
	}
}

func TestPutErrors(t *testing.T) {
	for _, b := range invalid() {
		refused(t, b, 0, 0)
		refused(t, b, 1, -6)
		refused(t, b, -1, 16)
	}
	for _, s := range sizes() {
		b := samples(s)[1]
		count := len(b.Pieces)
		for _, at := range []int{-1, -count, count, count + 1, 64, 256, 1 << 32, math.MinInt, math.MaxInt} {
			refused(t, b, at, 0)
			refused(t, b, at, 5)
			refused(t, b, at, 16)
		}
		for _, p := range beyond() {
			refused(t, b, 0, p)
			refused(t, b, count-1, p)
		}
	}
}

func refused(t *testing.T, b api.Board, at int, p api.Piece) {
	t.Helper()
	before := clone(b)
	if got, e := board.Put(b, at, p); e != api.ErrArg || !zero(got) || !same(b, before) {
		t.Error(b, at, p, got, e)
	}
}

// P3.3

func TestFind(t *testing.T) {
	for _, s := range sizes() {
		for _, b := range samples(s) {
			before := clone(b)
			for _, p := range pieces() {
				var at []int
				for i, q := range b.Pieces {
					if q == p {
						at = append(at, i)
					}
				}
				want, _ := square.Of(s, at...)
				if set, e := board.Find(b, p); set != want || e != api.OK || !same(b, before) {
					t.Error(b, p, set, e, "want", want)
				}
			}
		}
	}
}

func TestFindErrors(t *testing.T) {
	for _, b := range invalid() {
		for _, p := range []api.Piece{0, 1, -6, 15, 16, 127, -128} {
			if set, e := board.Find(b, p); set != 0 || e != api.ErrArg {
				t.Error(b, p, set, e)
			}
		}
	}
	for _, s := range sizes() {
		for _, p := range beyond() {
			if set, e := board.Find(samples(s)[0], p); set != 0 || e != api.ErrArg {
				t.Error(s, p, set, e)
			}
		}
	}
}

// P3.4

func TestSides(t *testing.T) {
	for _, s := range sizes() {
		for _, b := range samples(s) {
			before := clone(b)
			var white, black api.Squares
			for at, p := range b.Pieces {
				switch side, _ := piece.Side(p); side {
				case 1:
					white |= 1 << at
				case -1:
					black |= 1 << at
				}
			}
			if w, l, e := board.Sides(b); w != white || l != black || e != api.OK || !same(b, before) {
				t.Error(b, w, l, e, "want", white, black)
			}
		}
	}
}

func TestMaterial(t *testing.T) {
	values := []int{0, 1, 3, 3, 5, 9, 0, 0, 0, 0, 0, 0, 0, 0, 0, 0}
	for _, s := range sizes() {
		for _, b := range samples(s) {
			before := clone(b)
			white, black := 0, 0
			for _, p := range b.Pieces {
				if p > 0 {
					white += values[p]
				} else {
					black += values[-p]
				}
			}
			if w, l, e := board.Material(b); w != white || l != black || e != api.OK || !same(b, before) {
				t.Error(b, w, l, e, "want", white, black)
			}
		}
	}
	full := filled(api.Size{Files: 8, Ranks: 8}, func(int) api.Piece { return -5 })
	if w, l, e := board.Material(full); w != 0 || l != 576 || e != api.OK {
		t.Error(w, l, e)
	}
}

func TestSidesAndMaterialErrors(t *testing.T) {
	for _, b := range invalid() {
		if w, l, e := board.Sides(b); w != 0 || l != 0 || e != api.ErrArg {
			t.Error(b, w, l, e)
		}
		if w, l, e := board.Material(b); w != 0 || l != 0 || e != api.ErrArg {
			t.Error(b, w, l, e)
		}
	}
}

// P3.5

// textOf writes a point for each empty square, and then a digit for each group of points, the longest ones first.
func textOf(b api.Board) string {
	s := ""
	for rank := b.Size.Ranks - 1; rank >= 0; rank-- {
		for file := range b.Size.Files {
			switch p := b.Pieces[rank*b.Size.Files+file]; {
			case p > 0:
				s += letters[p-1 : p]
			case p < 0:
				s += strings.ToLower(letters[-p-1 : -p])
			default:
				s += "."
			}
		}
		if rank > 0 {
			s += "/"
		}
	}
	return grouped(s)
}

func grouped(s string) string {
	for n := 8; n >= 1; n-- {
		s = strings.ReplaceAll(s, strings.Repeat(".", n), "12345678"[n-1:n])
	}
	return s
}

// read returns the board with a text, if there is one, by writing the groups as points and comparing what textOf makes of them.
func read(s string) (api.Board, bool) {
	open := s
	for n := 1; n <= 8; n++ {
		open = strings.ReplaceAll(open, "12345678"[n-1:n], strings.Repeat(".", n))
	}
	ranks := strings.Split(open, "/")
	size := api.Size{Files: len(ranks[0]), Ranks: len(ranks)}
	if !slices.Contains(sizes(), size) || grouped(open) != s || strings.Contains(s, ".") {
		return api.Board{}, false
	}
	b := api.Board{Size: size}
	for i := range ranks {
		rank := ranks[len(ranks)-1-i]
		if len(rank) != size.Files || strings.Trim(rank, letters+strings.ToLower(letters)+".") != "" {
			return api.Board{}, false
		}
		for _, c := range []byte(rank) {
			white := strings.IndexByte(letters, c)
			black := strings.IndexByte(strings.ToLower(letters), c)
			b.Pieces = append(b.Pieces, api.Piece(white-black))
		}
	}
	return b, strings.Trim(open, letters+strings.ToLower(letters)+"./") == "" && textOf(b) == s
}

// parsed checks that Parse agrees with read.
func parsed(t *testing.T, s string) {
	t.Helper()
	want, ok := read(s)
	b, e := board.Parse(s)
	if ok && (e != api.OK || !same(b, want)) || !ok && (e != api.ErrFormat || !zero(b)) {
		t.Errorf("%q %v %d want %v %v", s, b, e, want, ok)
	}
}

func TestText(t *testing.T) {
	for _, s := range sizes() {
		for _, b := range samples(s) {
			before := clone(b)
			if text, e := board.Text(b); text != textOf(b) || e != api.OK || !same(b, before) {
				t.Error(b, text, e, "want", textOf(b))
			}
		}
	}
	for _, b := range invalid() {
		if text, e := board.Text(b); text != "" || e != api.ErrArg {
			t.Errorf("%v %q %d", b, text, e)
		}
	}
}

// The piece on each square of each board stands at its place in the text.
func TestTextPlaces(t *testing.T) {
	for _, s := range sizes() {
		for at := range s.Files * s.Ranks {
			for _, p := range pieces()[1:] {
				rank := strings.Repeat(".", at%s.Files) + string([]byte{letterOf(p)}) + strings.Repeat(".", s.Files-1-at%s.Files)
				ranks := slices.Repeat([]string{strings.Repeat(".", s.Files)}, s.Ranks)
				ranks[s.Ranks-1-at/s.Files] = rank
				want := grouped(strings.Join(ranks, "/"))
				b := filled(s, func(i int) api.Piece { return only(i == at, p) })
				if text, e := board.Text(b); text != want || e != api.OK {
					t.Error(s, at, p, text, e, "want", want)
				}
				if got, e := board.Parse(want); e != api.OK || !same(got, b) {
					t.Error(want, got, e)
				}
			}
		}
	}
}

func letterOf(p api.Piece) byte {
	if p < 0 {
		return letters[-p-1] - 'A' + 'a'
	}
	return letters[p-1]
}

// Texts of boards are tried with each byte changed to each other one, left out, doubled and put in before it.
func TestParseBytes(t *testing.T) {
	for _, text := range []string{"3/3/3", "k2/1P1/2K", "ABCDE/5/p1p1p", "1r1J4/8/7Q/nnnnnnnn", "1j6/8/8/P1P1P1P1/1d1d1d1d/8/8/6IK"} {
		parsed(t, text)
		for at := range text {
			before, after := text[:at], text[at+1:]
			parsed(t, before+after)
			parsed(t, before)
			parsed(t, after)
			for c := range 256 {
				byChange := string([]byte{byte(c)})
				parsed(t, before+byChange+after)
				parsed(t, text[:at]+byChange+text[at:])
				parsed(t, text+byChange)
			}
		}
	}
}

// All strings of up to five of some bytes are tried as each rank of a board of three files, and all of up to eight of some bytes as texts.
func TestParseAllStrings(t *testing.T) {
	for _, s := range all("0123kQ/", 5) {
		for _, text := range []string{s + "/3/3", "3/" + s + "/3", "3/3/" + s} {
			parsed(t, text)
		}
	}
	good := 0
	for _, s := range all("123k/", 8) {
		parsed(t, s)
		if _, ok := read(s); ok {
			good++
		}
	}
	if good < 100 {
		t.Error("only", good, "texts are those of boards")
	}
}

// all returns all strings of up to n of some bytes.
func all(bytes string, n int) []string {
	l := []string{""}
	for first := 0; n > 0; n-- {
		end := len(l)
		for _, s := range l[first:end] {
			for i := range bytes {
				l = append(l, s+bytes[i:i+1])
			}
		}
		first = end
	}
	return l
}

// The number of files and ranks of texts goes from too few to too many.
func TestParseSizes(t *testing.T) {
	for files := range 20 {
		for ranks := range 20 {
			for _, c := range []string{".", "q", "E"} {
				text := grouped(strings.Join(slices.Repeat([]string{strings.Repeat(c, files)}, ranks), "/"))
				parsed(t, text)
				_, e := board.Parse(text)
				if want := slices.Contains(sizes(), api.Size{Files: files, Ranks: ranks}); (e == api.OK) != want {
					t.Errorf("%q %d want %v", text, e, want)
				}
			}
		}
	}
}

// One rank of another length makes it no text, wherever it is.
func TestParseRanksOfDifferentLengths(t *testing.T) {
	for _, s := range sizes() {
		for odd := range s.Ranks {
			for length := range 12 {
				ranks := slices.Repeat([]string{strings.Repeat("R", s.Files)}, s.Ranks)
				ranks[odd] = strings.Repeat("b", length)
				text := strings.Join(ranks, "/")
				b, e := board.Parse(text)
				if good := length == s.Files; good && e != api.OK || !good && (e != api.ErrFormat || !zero(b)) {
					t.Error(text, b, e)
				}
			}
		}
	}
}

func TestParseNoText(t *testing.T) {
	for _, s := range []string{
		"", "/", "//", "3", "3/3", "///", "3//3", "3/3/3/", "/3/3/3", "3/3//3", "3\\3\\3", "3-3-3",
		"0/0/0", "30/3/3", "03/3/3", "3/3/03", "k02/3/3", "k20/3/3", "9/9/9", "1/1/1", "2/2/2", "2/2/2/2/2/2/2/2",
		"k2/111/2K", "k2/12/2K", "k2/21/2K", "k11/3/3", "11k/3/3", "44/8/8", "8/8/62", "53/8/8", "17/8/8", "10/10/10", "12/12/12",
		"k2/3/3K", "k2/3/K3", "k2/4/2K", "k2/2/2K", "k2/2K", "k3/3/2K", "4/3/3", "3/3/4", "3/4/3", "8/8/7", "8/8/8k", "9/8/8", "k8/8/8", "8k/8/8",
		"8/8/8/8/8/8/8/8/8", "3/3/3/3/3/3/3/3/3", "ppppppppp/ppppppppp/ppppppppp", "pp/pp/pp",
		"x2/3/2K", "L2/3/3", "l2/3/3", "M2/3/3", "O2/3/3", "S2/3/3", "z2/3/3", "3/3/ 3", " 3/3/3", "3/3/3 ", "3/3/3\n", "3/3/3\x00", "-3/3/3", "+3/3/3", "3.0/3/3",
		"é2/3/3", "é1/3/3", "ｋ2/3/3", "３/3/3", "♔2/3/3", "\xff2/3/3", "k2/3/2K w", "k2/3/2K w - - 0 1", "3x3 k2/3/2K",
	} {
		if b, e := board.Parse(s); e != api.ErrFormat || !zero(b) {
			t.Errorf("%q %v %d", s, b, e)
		}
		parsed(t, s)
	}
}

// Texts that are far too long are refused, too.
func TestParseLong(t *testing.T) {
	for _, s := range []string{"/", "k", "8", "0", "1", "3/", "k2/", "8k", "\x00", "rnbqkbnr/"} {
		for _, n := range []int{100, 256, 1 << 16, 1 << 20} {
			long := strings.Repeat(s, n)
			for _, text := range []string{long, "3/3/3" + long, long + "3/3/3", "3/3/" + long + "/3"} {
				if b, e := board.Parse(text); e != api.ErrFormat || !zero(b) {
					t.Errorf("%d times %q: %d", n, s, e)
				}
			}
		}
	}
}

// P3.6

func TestInverses(t *testing.T) {
	for _, s := range sizes() {
		for _, b := range samples(s) {
			text, e := board.Text(b)
			back, f := board.Parse(text)
			if e != api.OK || f != api.OK || !board.Equal(b, back) || !board.Valid(back) {
				t.Error(b, text, back, e, f)
			}
			if again, e := board.Text(back); again != text || e != api.OK {
				t.Error(text, again, e)
			}
		}
	}
	for _, s := range all("123k/", 8) {
		b, e := board.Parse(s)
		if e != api.OK {
			continue
		}
		if text, f := board.Text(b); text != s || f != api.OK || !board.Valid(b) {
			t.Error(s, text, f)
		}
	}
}

// After Put, the square is among those of the piece and of no other one; the other squares are where they were.
func TestFindAfterPut(t *testing.T) {
	for _, s := range sizes() {
		for _, b := range samples(s)[:12] {
			for at := range b.Pieces {
				p := pieces()[(at*at+len(b.Pieces))%31]
				after, e := board.Put(b, at, p)
				if e != api.OK {
					t.Fatal(b, at, p, e)
				}
				for _, q := range pieces() {
					old, _ := board.Find(b, q)
					set, e := board.Find(after, q)
					if e != api.OK || square.Has(set, at) != (q == p) || set&^(1<<at) != old&^(1<<at) {
						t.Error(b, at, p, q, old, set, e)
					}
				}
			}
		}
	}
}

// The squares of both sides and the empty ones, and those of all pieces and the empty ones, are all squares, each once.
func TestAllSquaresOnce(t *testing.T) {
	for _, s := range sizes() {
		every, _ := square.All(s)
		for _, b := range samples(s) {
			white, black, e := board.Sides(b)
			empty, f := board.Find(b, 0)
			if e != api.OK || f != api.OK || white&black != 0 || white&empty != 0 || black&empty != 0 || white|black|empty != every {
				t.Error(b, white, black, empty, e, f)
			}
			var seen api.Squares
			for _, p := range pieces() {
				set, _ := board.Find(b, p)
				if seen&set != 0 || p > 0 && set&^white != 0 || p < 0 && set&^black != 0 {
					t.Error(b, p, set)
				}
				seen |= set
			}
			if seen != every {
				t.Error(b, seen)
			}
		}
	}
}

// The examples of the chapter.
func TestExamples(t *testing.T) {
	a, e := board.Empty(api.Size{Files: 3, Ranks: 4})
	b, f := board.Put(a, 4, -6)
	if e != api.OK || f != api.OK {
		t.Error(e, f)
	}
	for want, b := range map[string]api.Board{"3/3/3/3": a, "3/3/1k1/3": b} {
		if text, e := board.Text(b); text != want || e != api.OK {
			t.Error(text, e, "want", want)
		}
	}
	b, e = board.Parse("k2/3/2K")
	king, f := board.Find(b, 6)
	if e != api.OK || king != 4 || f != api.OK {
		t.Error(e, king, f)
	}
	if w, l, e := board.Sides(b); w != 4 || l != 64 || e != api.OK {
		t.Error(w, l, e)
	}
	if w, l, e := board.Material(b); w != 0 || l != 0 || e != api.OK {
		t.Error(w, l, e)
	}
	b, e = board.Parse("rnbqk/5/PPPPP/RNBQK")
	if w, l, f := board.Material(b); w != 25 || l != 20 || e != api.OK || f != api.OK {
		t.Error(w, l, e, f)
	}
}

// P1 of DOC.md: whatever the arguments are, each function returns, and with an error everything else is zero.
func TestAnyArguments(t *testing.T) {
	numbers := []int{math.MinInt, -64, -1, 0, 1, 8, 9, 63, 64, 1 << 40, math.MaxInt}
	l := append(invalid(), samples(api.Size{Files: 3, Ranks: 3})...)
	for _, n := range numbers {
		for _, m := range numbers {
			s := api.Size{Files: n, Ranks: m}
			for _, length := range []int{0, 9, 64, 1 << 12} {
				l = append(l, api.Board{Size: s, Pieces: make([]api.Piece, length)})
			}
			if b, e := board.Empty(s); e != api.OK && !zero(b) {
				t.Error(s, b, e)
			}
		}
	}
	for i, b := range l {
		board.Valid(b)
		board.Equal(b, l[(i+1)%len(l)])
		board.Copy(b)
		white, black, e := board.Sides(b)
		w, k, f := board.Material(b)
		text, g := board.Text(b)
		if e != api.OK && white|black != 0 || f != api.OK && w|k != 0 || g != api.OK && text != "" {
			t.Error(b, white, black, e, w, k, f, text, g)
		}
		for _, n := range numbers {
			p := api.Piece(n)
			if c, e := board.Put(b, n, p); e != api.OK && !zero(c) {
				t.Error(b, n, c, e)
			}
			if set, e := board.Find(b, p); e != api.OK && set != 0 {
				t.Error(b, n, set, e)
			}
		}
	}
}
