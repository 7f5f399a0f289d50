package piece_test

import (
	"math"
	"strings"
	"testing"

	"caissa/api"
	"caissa/piece"
)

// row is a column of the chapter's table, with the letter of each side written out.
type row struct {
	kind         api.Piece
	white, black byte
	value        int
	name         string
}

var table = []row{
	{1, 'P', 'p', 1, "pawn"},
	{2, 'N', 'n', 3, "knight"},
	{3, 'B', 'b', 3, "bishop"},
	{4, 'R', 'r', 5, "rook"},
	{5, 'Q', 'q', 9, "queen"},
	{6, 'K', 'k', 0, "king"},
	{7, 'A', 'a', 0, "fairy-a"},
	{8, 'C', 'c', 0, "fairy-c"},
	{9, 'D', 'd', 0, "fairy-d"},
	{10, 'E', 'e', 0, "fairy-e"},
	{11, 'F', 'f', 0, "fairy-f"},
	{12, 'G', 'g', 0, "fairy-g"},
	{13, 'H', 'h', 0, "fairy-h"},
	{14, 'I', 'i', 0, "fairy-i"},
	{15, 'J', 'j', 0, "fairy-j"},
}

// man is a piece as the chapter defines it.
type man struct {
	piece  api.Piece
	side   int
	letter byte
	row
}

// men returns all pieces of both sides.
func men() []man {
	var l []man
	for _, r := range table {
		l = append(l, man{r.kind, 1, r.white, r}, man{-r.kind, -1, r.black, r})
	}
	return l
}

// every returns all numbers of the type.
func every() []api.Piece {
	var l []api.Piece
	for n := math.MinInt8; n <= math.MaxInt8; n++ {
		l = append(l, api.Piece(n))
	}
	return l
}

// beyond returns all numbers that are neither those of pieces nor 0.
func beyond() []api.Piece {
	var l []api.Piece
	for n := 16; n <= 127; n++ {
		l = append(l, api.Piece(n), api.Piece(-n))
	}
	return append(l, -128)
}

// noKinds returns all numbers that are no kinds: 0, the pieces of Black, and those beyond the pieces.
func noKinds() []api.Piece {
	l := append(beyond(), 0)
	for _, r := range table {
		l = append(l, -r.kind)
	}
	return l
}

func TestMaxKind(t *testing.T) {
	if piece.MaxKind != 15 || len(table) != 15 {
		t.Error(piece.MaxKind, len(table))
	}
}

// P2.1

func TestValid(t *testing.T) {
	for _, m := range men() {
		if !piece.Valid(m.piece) {
			t.Error(m.piece, "is a piece")
		}
	}
	if !piece.Valid(0) {
		t.Error("0 stands for no piece")
	}
	for _, p := range beyond() {
		if piece.Valid(p) {
			t.Error(p, "is no piece")
		}
	}
}

func TestOrthodox(t *testing.T) {
	orthodox := map[api.Piece]bool{1: true, 2: true, 3: true, 4: true, 5: true, 6: true, -1: true, -2: true, -3: true, -4: true, -5: true, -6: true}
	for _, p := range every() {
		if piece.Orthodox(p) != orthodox[p] {
			t.Error(p, "want", orthodox[p])
		}
	}
}

// P2.2

func TestKindAndSide(t *testing.T) {
	for _, m := range append(men(), man{}) {
		if kind, e := piece.Kind(m.piece); kind != m.kind || e != api.OK {
			t.Error(m, kind, e)
		}
		if side, e := piece.Side(m.piece); side != m.side || e != api.OK {
			t.Error(m, side, e)
		}
	}
	for _, p := range beyond() {
		if kind, e := piece.Kind(p); kind != 0 || e != api.ErrArg {
			t.Error(p, kind, e)
		}
		if side, e := piece.Side(p); side != 0 || e != api.ErrArg {
			t.Error(p, side, e)
		}
	}
}

func TestMake(t *testing.T) {
	for _, m := range men() {
		if p, e := piece.Make(m.kind, m.side < 0); p != m.piece || e != api.OK {
			t.Error(m, p, e)
		}
	}
	for _, kind := range noKinds() {
		for _, black := range []bool{false, true} {
			if p, e := piece.Make(kind, black); p != 0 || e != api.ErrArg {
				t.Error(kind, black, p, e)
			}
		}
	}
}

// P2.3

func TestLetter(t *testing.T) {
	for _, m := range men() {
		if c, e := piece.Letter(m.piece); c != m.letter || e != api.OK {
			t.Error(m, c, e)
		}
	}
	for _, p := range append(beyond(), 0) {
		if c, e := piece.Letter(p); c != 0 || e != api.ErrArg {
			t.Error(p, c, e)
		}
	}
}

// All bytes are tried.
func TestParse(t *testing.T) {
	pieces := map[byte]api.Piece{}
	for _, m := range men() {
		pieces[m.letter] = m.piece
	}
	for i := range 256 {
		want, found := pieces[byte(i)]
		p, e := piece.Parse(byte(i))
		if found && (p != want || e != api.OK) || !found && (p != 0 || e != api.ErrFormat) {
			t.Errorf("%q %d %d", byte(i), p, e)
		}
	}
}

// P2.4

func TestValue(t *testing.T) {
	for _, m := range append(men(), man{}) {
		if v, e := piece.Value(m.piece); v != m.value || e != api.OK {
			t.Error(m, v, e)
		}
	}
	for _, p := range beyond() {
		if v, e := piece.Value(p); v != 0 || e != api.ErrArg {
			t.Error(p, v, e)
		}
	}
}

func TestName(t *testing.T) {
	for _, r := range table {
		if name, e := piece.Name(r.kind); name != r.name || e != api.OK {
			t.Error(r, name, e)
		}
	}
	for _, kind := range noKinds() {
		if name, e := piece.Name(kind); name != "" || e != api.ErrArg {
			t.Error(kind, name, e)
		}
	}
}

// Each name is tried with each byte of it changed, left out and doubled, and with each of its beginnings.
func TestFind(t *testing.T) {
	for _, r := range table {
		found(t, r.name)
		for at := range r.name {
			found(t, r.name[:at])
			found(t, r.name[:at]+r.name[at+1:])
			found(t, r.name[:at+1]+r.name[at:])
			for c := range 256 {
				found(t, r.name[:at]+string([]byte{byte(c)})+r.name[at+1:])
			}
		}
		for _, s := range []string{strings.ToUpper(r.name), r.name + " ", " " + r.name, r.name + "s", r.name + "\x00", r.name + r.name, string([]byte{r.white}), string([]byte{r.black})} {
			found(t, s)
		}
	}
	for _, s := range []string{"", "Rook", "Pawn", "fairy", "fairy-", "fairy-b", "fairy-k", "fairy_a", "fairy-A", "none", "1", "king queen", strings.Repeat("x", 1000)} {
		found(t, s)
	}
}

// found checks that Find agrees with the table.
func found(t *testing.T, name string) {
	t.Helper()
	want, e := api.Piece(0), api.ErrFormat
	for _, r := range table {
		if r.name == name {
			want, e = r.kind, api.OK
		}
	}
	if kind, f := piece.Find(name); kind != want || f != e {
		t.Errorf("%q %d %d", name, kind, f)
	}
}

// P2.5

const (
	letters = "abcdefghijklmnopqrstuvwxyzABCDEFGHIJKLMNOPQRSTUVWXYZ"
	others  = "0123456789-_"
)

func TestValidNameLengths(t *testing.T) {
	for n := range 70 {
		for _, c := range []string{"a", "Z"} {
			if s := strings.Repeat(c, n); piece.ValidName(s) != (1 <= n && n <= 32) {
				t.Error(n, s)
			}
		}
	}
	for _, n := range []int{256, 256 + 1, 256 + 32, 1 << 16, 1<<16 + 1} {
		if piece.ValidName(strings.Repeat("a", n)) {
			t.Error(n)
		}
	}
}

// All strings of one and of two bytes are tried.
func TestValidNameBytes(t *testing.T) {
	for i := range 256 {
		first := string([]byte{byte(i)})
		good := strings.Contains(letters, first)
		if piece.ValidName(first) != good {
			t.Errorf("%q", first)
		}
		for j := range 256 {
			second := string([]byte{byte(j)})
			if want := good && strings.Contains(letters+others, second); piece.ValidName(first+second) != want {
				t.Errorf("%q want %v", first+second, want)
			}
		}
	}
}

// Each byte is tried at each place of a name that is as long as a name may be.
func TestValidNamePlaces(t *testing.T) {
	for at := range 32 {
		for i := range 256 {
			c := string([]byte{byte(i)})
			s := strings.Repeat("x", at) + c + strings.Repeat("x", 31-at)
			want := strings.Contains(letters, c) || at > 0 && strings.Contains(others, c)
			if piece.ValidName(s) != want {
				t.Errorf("%q want %v", s, want)
			}
			if piece.ValidName(s + "x") {
				t.Errorf("%q has 33 bytes", s+"x")
			}
		}
	}
}

func TestValidNameExamples(t *testing.T) {
	for s, want := range map[string]bool{"a": true, "Z": true, "A-1_z": true, "a--__9": true, "x-": true, "": false, "1a": false, "-a": false, "_a": false, "9": false, "-": false, "_": false, "a.b": false, "a b": false, "a ": false, " a": false, "a\n": false, "a\x00": false, "é": false, "aé": false, "ａ": false, "a\xff": false, "\x80a": false, "x" + strings.Repeat("é", 15): false} {
		if piece.ValidName(s) != want {
			t.Errorf("%q want %v", s, want)
		}
	}
}

// P2.6

func TestMadeFromKindAndSide(t *testing.T) {
	for _, p := range every() {
		if p == 0 || !piece.Valid(p) {
			continue
		}
		kind, e := piece.Kind(p)
		side, f := piece.Side(p)
		made, g := piece.Make(kind, side < 0)
		if made != p || e != api.OK || f != api.OK || g != api.OK {
			t.Error(p, kind, side, made, e, f, g)
		}
		c, e := piece.Letter(p)
		if read, f := piece.Parse(c); read != p || e != api.OK || f != api.OK {
			t.Error(p, c, read, e, f)
		}
	}
}

func TestLettersDiffer(t *testing.T) {
	seen := map[byte]api.Piece{}
	for _, m := range men() {
		c, _ := piece.Letter(m.piece)
		if p, twice := seen[c]; twice {
			t.Errorf("%q is the letter of %d and %d", c, p, m.piece)
		}
		seen[c] = m.piece
	}
}

func TestOppositeNumber(t *testing.T) {
	for p := -piece.MaxKind; p <= piece.MaxKind; p++ {
		side, _ := piece.Side(p)
		if other, e := piece.Side(-p); other != -side || e != api.OK {
			t.Error(p, side, other, e)
		}
		kind, _ := piece.Kind(p)
		if other, e := piece.Kind(-p); other != kind || e != api.OK {
			t.Error(p, kind, other, e)
		}
		value, _ := piece.Value(p)
		if other, e := piece.Value(-p); other != value || e != api.OK {
			t.Error(p, value, other, e)
		}
	}
}

func TestFindInvertsName(t *testing.T) {
	for kind := api.Piece(1); kind <= piece.MaxKind; kind++ {
		name, e := piece.Name(kind)
		if back, f := piece.Find(name); back != kind || e != api.OK || f != api.OK {
			t.Error(kind, name, back, e, f)
		}
		if !piece.ValidName(name) {
			t.Error(kind, name)
		}
	}
}

// The examples of the chapter.
func TestExamples(t *testing.T) {
	kind, _ := piece.Kind(-5)
	side, _ := piece.Side(-5)
	made, _ := piece.Make(5, true)
	if kind != 5 || side != -1 || made != -5 || piece.Valid(16) || !piece.Valid(-15) || piece.Orthodox(7) {
		t.Error(kind, side, made)
	}
	knight, _ := piece.Letter(-2)
	fairy, _ := piece.Letter(7)
	_, e := piece.Letter(0)
	king, _ := piece.Parse('k')
	_, f := piece.Parse('L')
	if knight != 'n' || fairy != 'A' || e != api.ErrArg || king != -6 || f != api.ErrFormat {
		t.Error(knight, fairy, e, king, f)
	}
	value, _ := piece.Value(-4)
	name, _ := piece.Name(3)
	last, _ := piece.Find("fairy-j")
	_, e = piece.Find("Rook")
	if value != 5 || name != "bishop" || last != 15 || e != api.ErrFormat {
		t.Error(value, name, last, e)
	}
}

// P1 of DOC.md: whatever the arguments are, each function returns, and with an error everything else is zero.
func TestAnyArguments(t *testing.T) {
	for _, p := range every() {
		piece.Valid(p)
		piece.Orthodox(p)
		zero(t, p, piece.Kind)
		zero(t, p, piece.Side)
		zero(t, p, piece.Letter)
		zero(t, p, piece.Value)
		zero(t, p, piece.Name)
		for _, black := range []bool{false, true} {
			zero(t, p, func(p api.Piece) (api.Piece, api.Errno) { return piece.Make(p, black) })
		}
	}
	for c := range 256 {
		zero(t, byte(c), piece.Parse)
	}
	long := strings.Repeat("a", 4096)
	for _, s := range []string{"", "\x00", "\xff\xfe", "é", "fairy-", long, long + "\xff"} {
		zero(t, s, piece.Find)
		piece.ValidName(s)
	}
}

// zero calls a function and checks that its result is zero if there is an error.
func zero[A any, R comparable](t *testing.T, a A, f func(A) (R, api.Errno)) {
	t.Helper()
	var none R
	if got, e := f(a); e != api.OK && got != none {
		t.Error(a, got, e)
	}
}
