package move_test

import (
	"math"
	"slices"
	"strings"
	"testing"

	"caissa/api"
	"caissa/move"
)

// numbers are at, beside and far beyond the limits of the layer; some are within them if only their last bits are looked at.
var numbers = []int{math.MinInt, math.MinInt + 1, -1<<32 - 1, -1 << 32, math.MinInt32, -256, -65, -64, -9, -2, -1, 0, 1, 2, 8, 9, 11, 12, 20, 63, 64, 65, 255, 256, 257, math.MaxInt32, 1 << 32, 1<<32 + 1, math.MaxInt - 1, math.MaxInt}

// badSizes are sizes that are not valid; the number of squares of some of them is that of a valid one, or overflows to it.
var badSizes = []api.Size{{}, {Files: 2, Ranks: 3}, {Files: 3, Ranks: 2}, {Files: 2, Ranks: 8}, {Files: 8, Ranks: 2}, {Files: 9, Ranks: 3}, {Files: 3, Ranks: 9}, {Files: 9, Ranks: 9}, {Files: 1, Ranks: 9}, {Files: 0, Ranks: 8}, {Files: 8, Ranks: 0}, {Files: -3, Ranks: -3}, {Files: 8, Ranks: -8}, {Files: 16, Ranks: 4}, {Files: 1<<62 + 3, Ranks: 4}, {Files: 264, Ranks: 8}, {Files: math.MaxInt, Ranks: math.MaxInt}, {Files: math.MinInt, Ranks: math.MinInt}}

// full is the greatest board, small the smallest one, flat and tall have different numbers of files and ranks.
var (
	full  = api.Size{Files: 8, Ranks: 8}
	small = api.Size{Files: 3, Ranks: 3}
	flat  = api.Size{Files: 8, Ranks: 3}
	tall  = api.Size{Files: 3, Ranks: 8}
)

// limit is how many moves a list has at most.
const limit = 1000

// sizes returns all valid sizes.
func sizes() []api.Size {
	var l []api.Size
	for files := 3; files <= 8; files++ {
		for ranks := 3; ranks <= 8; ranks++ {
			l = append(l, api.Size{Files: files, Ranks: ranks})
		}
	}
	return l
}

// everyKind returns all numbers of the type of pieces.
func everyKind() []api.Piece {
	var l []api.Piece
	for n := math.MinInt8; n <= math.MaxInt8; n++ {
		l = append(l, api.Piece(n))
	}
	return l
}

// dice gives numbers that look like random ones, always the same.
type dice uint64

func (d *dice) roll(n int) int {
	*d = *d*6364136223846793005 + 1442695040888963407
	return int(uint64(*d)>>33) % n
}

// The definitions of the chapter, written out without the functions of the program.

// entry is a valid move with its text.
type entry struct {
	m    api.Move
	text string
}

// entries returns all valid moves of a board, in order.
func entries(s api.Size) []entry {
	var names []string
	for rank := range s.Ranks {
		for file := range s.Files {
			names = append(names, "abcdefgh"[file:file+1]+"12345678"[rank:rank+1])
		}
	}
	var l []entry
	for from, a := range names {
		for to, b := range names {
			if from == to {
				continue
			}
			l = append(l, entry{api.Move{From: from, To: to}, a + b})
			for i, letter := range []string{"N", "B", "R", "Q"} {
				l = append(l, entry{api.Move{From: from, To: to, Promote: api.Piece(2 + i)}, a + b + letter})
			}
		}
	}
	return l
}

// byText returns the valid moves of a board by their texts.
func byText(s api.Size) map[string]api.Move {
	known := map[string]api.Move{}
	for _, c := range entries(s) {
		known[c.text] = c.m
	}
	return known
}

// valid tells whether a move is valid on a board of a valid size.
func valid(s api.Size, m api.Move) bool {
	for _, at := range []int{m.From, m.To} {
		if at < 0 || at > s.Files*s.Ranks-1 {
			return false
		}
	}
	switch m.Promote {
	case 0, 2, 3, 4, 5:
		return m.From != m.To
	}
	return false
}

// ordered returns -1, 0 or 1 by the order of two moves.
func ordered(a, b api.Move) int {
	switch {
	case a.From < b.From:
		return -1
	case a.From > b.From:
		return 1
	case a.To < b.To:
		return -1
	case a.To > b.To:
		return 1
	case a.Promote < b.Promote:
		return -1
	case a.Promote > b.Promote:
		return 1
	}
	return 0
}

// wordsOf returns the words of a text.
func wordsOf(text string) []string {
	if text == "" {
		return nil
	}
	words := []string{""}
	for i := range len(text) {
		if text[i] == ' ' {
			words = append(words, "")
		} else {
			words[len(words)-1] += text[i : i+1]
		}
	}
	return words
}

// read returns what ParseLine has to return for a board of a valid size, of which all moves are known.
func read(known map[string]api.Move, text string) ([]api.Move, int, api.Errno) {
	words := wordsOf(text)
	if len(words) > limit {
		return nil, 0, api.ErrArg
	}
	var l []api.Move
	for i, word := range words {
		m, ok := known[word]
		if !ok {
			return nil, i, api.ErrFormat
		}
		l = append(l, m)
	}
	return l, 0, api.OK
}

// The calls of the functions that are tested, each compared with what it has to return.

func checkText(t *testing.T, s api.Size, m api.Move, want string, wantE api.Errno) {
	t.Helper()
	if text, e := move.Text(s, m); text != want || e != wantE {
		t.Error(s, m, "has", text, e, "want", want, wantE)
	}
}

func checkParse(t *testing.T, s api.Size, text string, want api.Move, wantE api.Errno) {
	t.Helper()
	if m, e := move.Parse(s, text); m != want || e != wantE {
		t.Errorf("%v %.40q has %v %v, want %v %v", s, text, m, e, want, wantE)
	}
}

// checkKnown compares Parse with what is known of all moves of the board.
func checkKnown(t *testing.T, s api.Size, known map[string]api.Move, text string) {
	t.Helper()
	if m, ok := known[text]; ok {
		checkParse(t, s, text, m, api.OK)
	} else {
		checkParse(t, s, text, api.Move{}, api.ErrFormat)
	}
}

func checkLine(t *testing.T, s api.Size, l []api.Move, want string, wantE api.Errno) {
	t.Helper()
	if text, e := move.Line(s, l); text != want || e != wantE {
		t.Errorf("%v, %d moves have %.40q %v, want %.40q %v", s, len(l), text, e, want, wantE)
	}
}

func checkParseLine(t *testing.T, s api.Size, text string, want []api.Move, wantN int, wantE api.Errno) {
	t.Helper()
	if l, n, e := move.ParseLine(s, text); !slices.Equal(l, want) || n != wantN || e != wantE {
		t.Errorf("%v %.40q has %d moves, %d %v, want %d moves, %d %v", s, text, len(l), n, e, len(want), wantN, wantE)
	}
}

// some returns some of all valid moves of a board, with the texts of each of them and the text of their list.
func some(all []entry, count int, seed dice) (l []api.Move, words []string, text string) {
	for range count {
		c := all[seed.roll(len(all))]
		l = append(l, c.m)
		words = append(words, c.text)
	}
	return l, words, strings.Join(words, " ")
}

// replaced returns a list with an element in place of another one.
func replaced[T any](l []T, i int, by T) []T {
	return slices.Concat(l[:i], []T{by}, l[i+1:])
}

// P7.1

func TestValid(t *testing.T) {
	kinds := everyKind()
	for _, s := range sizes() {
		count := s.Files * s.Ranks
		for from := -2; from < count+2; from++ {
			for to := -2; to < count+2; to++ {
				for _, kind := range kinds {
					m := api.Move{From: from, To: to, Promote: kind}
					if want := valid(s, m); move.Valid(s, m) != want {
						t.Fatal(s, m, "want", want)
					}
				}
			}
		}
	}
}

func TestValidFar(t *testing.T) {
	for _, s := range sizes() {
		for _, from := range numbers {
			for _, to := range numbers {
				for _, kind := range []api.Piece{-128, -5, -2, 0, 1, 2, 5, 6, 7, 127} {
					m := api.Move{From: from, To: to, Promote: kind}
					if want := valid(s, m); move.Valid(s, m) != want {
						t.Fatal(s, m, "want", want)
					}
				}
			}
		}
	}
}

func TestValidSamples(t *testing.T) {
	for _, c := range []struct {
		s    api.Size
		m    api.Move
		want bool
	}{
		{full, api.Move{From: 8, To: 24}, true},
		{full, api.Move{From: 48, To: 56, Promote: api.Queen}, true},
		{full, api.Move{From: 63, To: 0, Promote: api.Knight}, true},
		{full, api.Move{From: 3, To: 60, Promote: api.Bishop}, true},
		{full, api.Move{From: 3, To: 60, Promote: api.Rook}, true},
		{full, api.Move{From: 3, To: 60, Promote: api.Pawn}, false},
		{full, api.Move{From: 3, To: 60, Promote: api.King}, false},
		{full, api.Move{From: 3, To: 60, Promote: 7}, false},
		{full, api.Move{From: 3, To: 60, Promote: -api.Queen}, false},
		{full, api.Move{}, false},
		{full, api.Move{From: 63, To: 63}, false},
		{full, api.Move{From: 64, To: 63}, false},
		{full, api.Move{From: 63, To: 64}, false},
		{full, api.Move{From: 0, To: -1}, false},
		{full, api.Move{From: -1, To: 0}, false},
		{small, api.Move{From: 8, To: 0}, true},
		{small, api.Move{From: 8, To: 9}, false},
		{flat, api.Move{From: 23, To: 0}, true},
		{tall, api.Move{From: 0, To: 23}, true},
		{tall, api.Move{From: 0, To: 24}, false},
	} {
		if move.Valid(c.s, c.m) != c.want {
			t.Error(c.s, c.m, "want", c.want)
		}
	}
}

func TestValidBadSize(t *testing.T) {
	for _, s := range badSizes {
		for _, from := range numbers {
			for _, to := range numbers {
				for _, kind := range []api.Piece{-5, 0, 1, 5} {
					if m := (api.Move{From: from, To: to, Promote: kind}); move.Valid(s, m) {
						t.Error(s, m, "is not valid")
					}
				}
			}
		}
	}
}

func TestCompare(t *testing.T) {
	squares := []int{math.MinInt, math.MinInt + 1, -1 << 32, -2, -1, 0, 1, 2, 9, 10, 63, 64, 1 << 32, math.MaxInt - 1, math.MaxInt}
	var l []api.Move
	for _, from := range squares {
		for _, to := range squares {
			for _, kind := range []api.Piece{-128, -127, -5, -1, 0, 1, 2, 5, 127} {
				l = append(l, api.Move{From: from, To: to, Promote: kind})
			}
		}
	}
	for _, a := range l {
		for _, b := range l {
			if got, want := move.Compare(a, b), ordered(a, b); got != want {
				t.Fatal(a, b, got, "want", want)
			}
		}
	}
}

// Each part is compared alone, with all others equal, whether the moves are valid or not.
func TestCompareOnePart(t *testing.T) {
	for i, low := range numbers {
		for _, high := range numbers[i+1:] {
			for _, other := range []int{-1, 0, 7, 64} {
				checkOrder(t, api.Move{From: low, To: other, Promote: 2}, api.Move{From: high, To: other, Promote: 2})
				checkOrder(t, api.Move{From: other, To: low, Promote: 2}, api.Move{From: other, To: high, Promote: 2})
			}
		}
	}
	kinds := everyKind()
	for i, low := range kinds {
		for _, high := range kinds[i+1:] {
			checkOrder(t, api.Move{From: 3, To: 4, Promote: low}, api.Move{From: 3, To: 4, Promote: high})
			checkOrder(t, api.Move{From: -3, To: -3, Promote: low}, api.Move{From: -3, To: -3, Promote: high})
		}
	}
}

// checkOrder tells that the first move comes before the second one, and each is equal to itself.
func checkOrder(t *testing.T, a, b api.Move) {
	t.Helper()
	if move.Compare(a, b) != -1 || move.Compare(b, a) != 1 || move.Compare(a, a) != 0 || move.Compare(b, b) != 0 {
		t.Error(a, b, move.Compare(a, b), move.Compare(b, a), move.Compare(a, a), move.Compare(b, b))
	}
}

// An earlier part decides, whatever the later ones say.
func TestCompareParts(t *testing.T) {
	checkOrder(t, api.Move{From: 1, To: 63, Promote: 5}, api.Move{From: 2, To: 0})
	checkOrder(t, api.Move{From: 1, To: 63}, api.Move{From: 2, To: 0, Promote: 5})
	checkOrder(t, api.Move{From: 1, To: 3, Promote: 5}, api.Move{From: 1, To: 4})
	checkOrder(t, api.Move{From: 1, To: 3}, api.Move{From: 1, To: 3, Promote: 2})
	checkOrder(t, api.Move{From: 1, To: 3, Promote: -2}, api.Move{From: 1, To: 3})
}

// P7.2

func TestText(t *testing.T) {
	for _, s := range sizes() {
		for _, c := range entries(s) {
			checkText(t, s, c.m, c.text, api.OK)
		}
	}
}

func TestParse(t *testing.T) {
	for _, s := range sizes() {
		for _, c := range entries(s) {
			checkParse(t, s, c.text, c.m, api.OK)
		}
	}
}

func TestTextSamples(t *testing.T) {
	for _, c := range []struct {
		s    api.Size
		m    api.Move
		text string
	}{
		{full, api.Move{From: 8, To: 24}, "a2a4"},
		{full, api.Move{From: 48, To: 56, Promote: api.Queen}, "a7a8Q"},
		{full, api.Move{From: 15, To: 7, Promote: api.Knight}, "h2h1N"},
		{full, api.Move{From: 4, To: 6}, "e1g1"},
		{full, api.Move{From: 63, To: 0, Promote: api.Bishop}, "h8a1B"},
		{small, api.Move{From: 0, To: 8, Promote: api.Rook}, "a1c3R"},
		{flat, api.Move{From: 23, To: 8}, "h3a2"},
		{tall, api.Move{From: 23, To: 8}, "c8c3"},
	} {
		checkText(t, c.s, c.m, c.text, api.OK)
		checkParse(t, c.s, c.text, c.m, api.OK)
	}
}

func TestTextErrors(t *testing.T) {
	kinds := everyKind()
	for _, s := range sizes() {
		count := s.Files * s.Ranks
		for _, at := range append(numbers, count, count+1, count-1) {
			if at < 0 || at >= count {
				checkText(t, s, api.Move{From: at, To: 0}, "", api.ErrArg)
				checkText(t, s, api.Move{From: 0, To: at}, "", api.ErrArg)
				checkText(t, s, api.Move{From: at, To: count - 1, Promote: 5}, "", api.ErrArg)
			}
			checkText(t, s, api.Move{From: at, To: at}, "", api.ErrArg)
			checkText(t, s, api.Move{From: at, To: at, Promote: 2}, "", api.ErrArg)
		}
		for _, kind := range kinds {
			if kind != 0 && (kind < 2 || kind > 5) {
				checkText(t, s, api.Move{From: 0, To: 1, Promote: kind}, "", api.ErrArg)
			}
		}
	}
	checkText(t, small, api.Move{}, "", api.ErrArg)
}

func TestTextBadSize(t *testing.T) {
	for _, s := range badSizes {
		for _, c := range entries(small) {
			checkText(t, s, c.m, "", api.ErrArg)
		}
		checkText(t, s, api.Move{From: -1, To: 64, Promote: 9}, "", api.ErrArg)
	}
}

// The size is looked at before the text.
func TestParseBadSize(t *testing.T) {
	for _, s := range badSizes {
		for _, text := range []string{"a1b1", "a1b1Q", "a1a1", "", "a1", "a1b1q", "a1b1 a1b1", "i9i9", "\xff"} {
			checkParse(t, s, text, api.Move{}, api.ErrArg)
		}
	}
}

// The names of squares that other boards have are no names here.
func TestParseOtherBoards(t *testing.T) {
	for _, s := range sizes() {
		known := byText(s)
		for _, c := range entries(full) {
			checkKnown(t, s, known, c.text)
		}
	}
}

// Every letter of a piece, and every other byte, is tried in the place of the promotion.
func TestParsePromote(t *testing.T) {
	for _, s := range sizes() {
		for c := range 256 {
			text := "a1b2" + string([]byte{byte(c)})
			kind := api.Piece(2 + strings.IndexByte("NBRQ", byte(c)))
			if kind < 2 {
				checkParse(t, s, text, api.Move{}, api.ErrFormat)
			} else {
				checkParse(t, s, text, api.Move{From: 0, To: s.Files + 1, Promote: kind}, api.OK)
			}
		}
		for _, letter := range "PKACDEFGHIJpnbrqkacdefghij0.=" {
			checkParse(t, s, "a1b2"+string(letter), api.Move{}, api.ErrFormat)
		}
	}
}

// Each byte of some texts is replaced, left out, doubled, or preceded and followed by another one.
func TestParseChanged(t *testing.T) {
	for _, s := range []api.Size{small, flat, tall, full} {
		known := byText(s)
		for _, text := range []string{"a1b1", "c3a2Q", "b3b2N", "a1a1", "b2b2R"} {
			for i := range len(text) {
				checkKnown(t, s, known, text[:i]+text[i+1:])
				checkKnown(t, s, known, text[:i])
				checkKnown(t, s, known, text[i:])
				checkKnown(t, s, known, text[:i]+text[i:i+1]+text[i:])
				for c := range 256 {
					checkKnown(t, s, known, text[:i]+string([]byte{byte(c)})+text[i+1:])
					checkKnown(t, s, known, text[:i]+string([]byte{byte(c)})+text[i:])
				}
			}
			for c := range 256 {
				checkKnown(t, s, known, text+string([]byte{byte(c)}))
			}
		}
	}
}

// All strings of up to six bytes over some letters are tried.
func TestParseShort(t *testing.T) {
	known := byText(small)
	const letters = "ac`d140NKn "
	level := []string{""}
	for length := range 7 {
		for _, text := range level {
			checkKnown(t, small, known, text)
		}
		if length == 6 {
			break
		}
		var longer []string
		for _, text := range level {
			for i := range len(letters) {
				longer = append(longer, text+letters[i:i+1])
			}
		}
		level = longer
	}
}

func TestParseSamples(t *testing.T) {
	for _, text := range []string{"", "a", "a1", "a1b", "a1a1", "h8h8Q", "a1b1q", "h2h1n", "h2h1K", "a1b1P", "a1b1 ", " a1b1", "a1 b1", "a1-b1", "a1xb1", "a1b1=Q", "a1b1QQ", "a1b1Q ", "A1b1", "a1B1", "a1b9", "a0b1", "i1a1", "1a1b", "a1b1+", "0-0", "O-O", "e4", "Nf3", "a1b\u0661", "\uff41" + "1b1", "a1b1\x00", "a1b1\n", strings.Repeat("a1b1", 2), strings.Repeat("a", 1<<20), strings.Repeat("a1b1Q", 1<<18)} {
		checkParse(t, full, text, api.Move{}, api.ErrFormat)
	}
	checkParse(t, small, "a1a4", api.Move{}, api.ErrFormat)
	checkParse(t, flat, "a1a4", api.Move{}, api.ErrFormat)
	checkParse(t, tall, "a1d1", api.Move{}, api.ErrFormat)
}

// P7.3

func TestLine(t *testing.T) {
	for i, s := range sizes() {
		all := entries(s)
		for _, count := range []int{0, 1, 2, 3, 10, limit - 1, limit} {
			l, _, text := some(all, count, dice(i))
			checkLine(t, s, l, text, api.OK)
			checkParseLine(t, s, text, l, 0, api.OK)
		}
	}
}

func TestLineSamples(t *testing.T) {
	l := []api.Move{{From: 0, To: 1}, {From: 8, To: 5}}
	checkLine(t, small, l, "a1b1 c3c2", api.OK)
	checkParseLine(t, small, "a1b1 c3c2", l, 0, api.OK)
	l = []api.Move{{From: 12, To: 28}, {From: 12, To: 28}, {From: 9, To: 0, Promote: 5}}
	checkLine(t, full, l, "e2e4 e2e4 b2a1Q", api.OK)
	checkParseLine(t, full, "e2e4 e2e4 b2a1Q", l, 0, api.OK)
	checkParseLine(t, small, "a1b1  c3c2", nil, 1, api.ErrFormat)
}

// A list of no move and a text of no word belong to each other.
func TestLineEmpty(t *testing.T) {
	for _, s := range sizes() {
		checkLine(t, s, nil, "", api.OK)
		checkLine(t, s, []api.Move{}, "", api.OK)
		checkParseLine(t, s, "", nil, 0, api.OK)
	}
}

func TestLineTooLong(t *testing.T) {
	if move.MaxLine != limit {
		t.Error(move.MaxLine)
	}
	for _, s := range sizes() {
		all := entries(s)
		for _, count := range []int{limit + 1, limit + 2, 2 * limit} {
			l, _, text := some(all, count, 5)
			checkLine(t, s, l, "", api.ErrArg)
			checkParseLine(t, s, text, nil, 0, api.ErrArg)
		}
	}
	checkLine(t, small, make([]api.Move, limit+1), "", api.ErrArg)
}

// wrongMoves are moves that are not valid on any board.
var wrongMoves = []api.Move{{}, {From: 8, To: 8}, {From: -1, To: 1}, {From: 1, To: -1}, {From: 64, To: 1}, {From: 1, To: 64}, {From: 1, To: 2, Promote: 1}, {From: 1, To: 2, Promote: 6}, {From: 1, To: 2, Promote: -5}, {From: math.MinInt, To: math.MaxInt}}

// wrongWords are words that are not the text of a move on any board.
var wrongWords = []string{"", "a", "a1", "a1a1", "a1b1q", "a1b1K", "a1b1P", "a1b9", "i1b1", "a1b1QQ", "a1-b1", "a1b1,", "\t", "a1\tb1", "\xff\xff\xff\xff"}

func TestLineWrongMove(t *testing.T) {
	for i, s := range sizes() {
		all := entries(s)
		for _, count := range []int{1, 2, 5} {
			l, _, _ := some(all, count, dice(i))
			for place := range l {
				for _, m := range append(wrongMoves, api.Move{To: s.Files * s.Ranks}) {
					checkLine(t, s, replaced(l, place, m), "", api.ErrArg)
				}
			}
		}
	}
	l, _, _ := some(entries(full), limit, 3)
	for place := range l {
		checkLine(t, full, replaced(l, place, api.Move{}), "", api.ErrArg)
	}
}

func TestParseLineWrongWord(t *testing.T) {
	for i, s := range sizes() {
		all := entries(s)
		for _, count := range []int{1, 2, 3, 7} {
			_, words, _ := some(all, count, dice(i))
			for place := range words {
				for _, word := range wrongWords {
					text := strings.Join(replaced(words, place, word), " ")
					if text != "" {
						checkParseLine(t, s, text, nil, place, api.ErrFormat)
					}
				}
			}
		}
	}
}

// The place of the only wrong word, and of the first one of two, is told in texts of as many words as there may be.
func TestParseLineWrongWordFar(t *testing.T) {
	_, words, _ := some(entries(full), limit, 4)
	for place := range words {
		for _, word := range []string{"", "a1a1", "a1b1k"} {
			one := replaced(words, place, word)
			checkParseLine(t, full, strings.Join(one, " "), nil, place, api.ErrFormat)
			two := replaced(one, limit-1, "a1")
			checkParseLine(t, full, strings.Join(two, " "), nil, place, api.ErrFormat)
		}
	}
}

// Words that are right and wrong ones in all orders, with spaces at the beginning, at the end and two together.
func TestParseLineMixtures(t *testing.T) {
	known := byText(small)
	words := []string{"a1b1", "c3c2Q", "", "a1a1", "a1b1q", "b2"}
	level := []string{""}
	for range 5 {
		var longer []string
		for _, text := range level {
			for _, word := range words {
				for _, line := range []string{word, word + text, word + " " + text} {
					l, n, e := read(known, line)
					checkParseLine(t, small, line, l, n, e)
				}
				longer = append(longer, word+" "+text)
			}
		}
		level = longer
	}
}

func TestParseLineSpaces(t *testing.T) {
	for _, s := range sizes() {
		all := entries(s)
		for count := range 6 {
			_, words, text := some(all, count, 9)
			checkParseLine(t, s, text+" ", nil, count, api.ErrFormat)
			checkParseLine(t, s, " "+text, nil, 0, api.ErrFormat)
			for place := range words {
				checkParseLine(t, s, strings.Join(words[:place+1], " ")+"  "+strings.Join(words[place:], " "), nil, place+1, api.ErrFormat)
			}
		}
	}
	for _, count := range []int{1, 2, 3, limit - 1} {
		checkParseLine(t, full, strings.Repeat(" ", count), nil, 0, api.ErrFormat)
	}
	for _, count := range []int{limit, limit + 1, 5 * limit, 1 << 22} {
		checkParseLine(t, full, strings.Repeat(" ", count), nil, 0, api.ErrArg)
	}
}

// A text from which a word is taken out, or in which one stands twice, is that of another list.
func TestParseLineMissingAndRepeated(t *testing.T) {
	for _, s := range sizes() {
		l, words, _ := some(entries(s), 6, 10)
		for place := range words {
			missing := slices.Concat(words[:place], words[place+1:])
			checkParseLine(t, s, strings.Join(missing, " "), slices.Concat(l[:place], l[place+1:]), 0, api.OK)
			repeated := slices.Concat(words[:place+1], words[place:])
			checkParseLine(t, s, strings.Join(repeated, " "), slices.Concat(l[:place+1], l[place:]), 0, api.OK)
		}
	}
}

// Spaces at the ends of a text count for words, too.
func TestParseLineSpacesAtLimit(t *testing.T) {
	l, _, text := some(entries(full), limit, 6)
	checkParseLine(t, full, text, l, 0, api.OK)
	checkParseLine(t, full, text+" ", nil, 0, api.ErrArg)
	checkParseLine(t, full, " "+text, nil, 0, api.ErrArg)
	checkParseLine(t, full, strings.Replace(text, " ", "  ", 1), nil, 0, api.ErrArg)
	_, _, text = some(entries(full), limit-1, 6)
	checkParseLine(t, full, text+" ", nil, limit-1, api.ErrFormat)
	checkParseLine(t, full, " "+text, nil, 0, api.ErrFormat)
}

// Only a space stands between words.
func TestParseLineSeparators(t *testing.T) {
	for c := range 256 {
		if c != ' ' {
			checkParseLine(t, full, "a1b1"+string([]byte{byte(c)})+"b1b2", nil, 0, api.ErrFormat)
			checkParseLine(t, full, "a1b1 b1b2Q"+string([]byte{byte(c)})+"b2b3", nil, 1, api.ErrFormat)
		}
	}
	for _, text := range []string{"\u00a0", "\u2003", "\r\n", ", "} {
		checkParseLine(t, full, "a1b1"+text+"b1b2", nil, 0, api.ErrFormat)
	}
	checkParseLine(t, full, "a1b1 "+strings.Repeat("b1b2", 1<<20)+" b2b3", nil, 1, api.ErrFormat)
}

// The words that the board does not have are told by their places.
func TestParseLineOtherBoards(t *testing.T) {
	all := entries(full)
	for _, s := range sizes() {
		known := byText(s)
		for seed := range 40 {
			_, _, text := some(all, 3, dice(seed))
			l, n, e := read(known, text)
			checkParseLine(t, s, text, l, n, e)
		}
	}
}

func TestLineBadSize(t *testing.T) {
	all := entries(small)
	for _, s := range badSizes {
		for _, count := range []int{0, 1, 2, limit, limit + 1} {
			l, _, text := some(all, count, 8)
			checkLine(t, s, l, "", api.ErrArg)
			checkParseLine(t, s, text, nil, 0, api.ErrArg)
		}
		checkLine(t, s, wrongMoves, "", api.ErrArg)
		checkParseLine(t, s, "a1b1 a1a1", nil, 0, api.ErrArg)
		checkParseLine(t, s, " ", nil, 0, api.ErrArg)
	}
}

// Too many words come before a word that is wrong, and then its place is not told.
func TestParseLineOrder(t *testing.T) {
	_, words, _ := some(entries(full), limit+1, 7)
	for _, place := range []int{0, 1, 2, limit / 2, limit - 1, limit} {
		for _, word := range wrongWords {
			checkParseLine(t, full, strings.Join(replaced(words, place, word), " "), nil, 0, api.ErrArg)
		}
	}
}

// Arguments stay as they are, and results share no memory.
func TestLineMemory(t *testing.T) {
	l, _, text := some(entries(full), 20, 2)
	for _, list := range [][]api.Move{l, slices.Concat(l, wrongMoves), slices.Concat(wrongMoves, l)} {
		before := slices.Clone(list)
		move.Line(full, list)
		if !slices.Equal(list, before) {
			t.Error(list, before)
		}
	}
	first, _, _ := move.ParseLine(full, text)
	second, _, _ := move.ParseLine(full, text)
	for i := range first {
		first[i] = api.Move{}
	}
	if !slices.Equal(second, l) {
		t.Error(second)
	}
	checkParseLine(t, full, text, l, 0, api.OK)
}

// P7.4

func TestInverses(t *testing.T) {
	for _, s := range sizes() {
		for _, c := range entries(s) {
			text, e := move.Text(s, c.m)
			m, f := move.Parse(s, text)
			again, g := move.Text(s, m)
			if m != c.m || again != text || e != api.OK || f != api.OK || g != api.OK {
				t.Error(s, c.m, text, m, again, e, f, g)
			}
		}
	}
}

// Whatever is read as a move has the text from which it was read, and is valid.
func TestParseText(t *testing.T) {
	const letters = "abchi1238NQBPKnq "
	roll := dice(1)
	for _, s := range sizes() {
		for range 20000 {
			var text []byte
			for range 4 + roll.roll(2) {
				text = append(text, letters[roll.roll(len(letters))])
			}
			m, e := move.Parse(s, string(text))
			if e == api.OK {
				checkText(t, s, m, string(text), api.OK)
			}
			if move.Valid(s, m) != (e == api.OK) {
				t.Error(s, string(text), m, e)
			}
		}
	}
}

func TestLineInverses(t *testing.T) {
	for i, s := range sizes() {
		all := entries(s)
		for count := range 60 {
			l, _, _ := some(all, count, dice(100*i))
			text, e := move.Line(s, l)
			k, n, f := move.ParseLine(s, text)
			again, g := move.Line(s, k)
			if !slices.Equal(k, l) || again != text || n != 0 || e != api.OK || f != api.OK || g != api.OK {
				t.Error(s, l, text, k, n, again, e, f, g)
			}
		}
	}
}

// Compare puts moves, valid or not, in the same order, however they were shuffled.
func TestOneOrder(t *testing.T) {
	for _, s := range []api.Size{small, flat, tall} {
		want := []api.Move{{From: math.MinInt, To: math.MaxInt}, {From: -1, To: 5, Promote: 1}}
		for _, c := range entries(s) {
			want = append(want, c.m)
		}
		want = append(want, api.Move{From: 64, To: 0}, api.Move{From: math.MaxInt, To: math.MinInt}, api.Move{From: math.MaxInt, To: 0, Promote: -3}, api.Move{From: math.MaxInt})
		for seed := range 10 {
			roll := dice(seed)
			l := slices.Clone(want)
			for i := range l {
				k := i + roll.roll(len(l)-i)
				l[i], l[k] = l[k], l[i]
			}
			slices.SortFunc(l, move.Compare)
			if !slices.Equal(l, want) {
				t.Error(s, seed, "is in another order")
			}
		}
	}
}

// P1

func TestNeverPanics(t *testing.T) {
	roll := dice(11)
	for _, s := range slices.Concat(sizes(), badSizes) {
		for range 3000 {
			m := api.Move{From: numbers[roll.roll(len(numbers))], To: numbers[roll.roll(len(numbers))], Promote: api.Piece(roll.roll(256) - 128)}
			n := api.Move{From: roll.roll(70) - 3, To: roll.roll(70) - 3, Promote: api.Piece(roll.roll(9) - 2)}
			move.Compare(m, n)
			for _, m := range []api.Move{m, n} {
				text, e := move.Text(s, m)
				if (e == api.OK) != move.Valid(s, m) || (e == api.OK) != (text != "") {
					t.Error(s, m, text, e)
				}
			}
			move.Line(s, []api.Move{n, m})
			text := make([]byte, roll.roll(14))
			for i := range text {
				text[i] = byte(roll.roll(256))
			}
			move.Parse(s, string(text))
			move.ParseLine(s, string(text))
			move.ParseLine(s, "a1b1 "+string(text))
		}
	}
}
