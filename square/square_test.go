package square_test

import (
	"math"
	"slices"
	"testing"

	"caissa/api"
	"caissa/square"
)

// numbers are at, beside and far beyond every limit of the layer.
var numbers = []int{math.MinInt, math.MinInt + 7, math.MinInt32, -65, -64, -9, -8, -3, -1, 0, 1, 2, 3, 4, 7, 8, 9, 11, 12, 16, 32, 62, 63, 64, 65, 127, 256, math.MaxInt32, 1 << 32, 1 << 62, math.MaxInt - 7, math.MaxInt}

// badSizes are sizes that are not valid; the product of some of them is that of a valid one, or overflows.
var badSizes = []api.Size{{}, {Files: 2, Ranks: 3}, {Files: 3, Ranks: 2}, {Files: 9, Ranks: 3}, {Files: 3, Ranks: 9}, {Files: -3, Ranks: -3}, {Files: 1, Ranks: 9}, {Files: 0, Ranks: 8}, {Files: 8, Ranks: 0}, {Files: 8, Ranks: -8}, {Files: 1 << 32, Ranks: 1 << 32}, {Files: math.MaxInt, Ranks: math.MaxInt}, {Files: math.MinInt, Ranks: math.MinInt}, {Files: 1<<32 + 3, Ranks: 3}, {Files: 256 + 3, Ranks: 3}}

// sizes returns all valid sizes.
func sizes() []api.Size {
	var l []api.Size
	for files := 3; files <= 8; files++ {
		for ranks := 3; ranks <= 8; ranks++ {
			l = append(l, api.Size{Files: files, Ranks: ranks})
		}
	}
	return l
}

// spot is a square as the document defines it, counted without the formulas of the package.
type spot struct {
	at, file, rank int
	name           string
	light          bool
}

func spots(s api.Size) []spot {
	var l []spot
	for rank := range s.Ranks {
		for file := range s.Files {
			name := "abcdefgh"[file:file+1] + "12345678"[rank:rank+1]
			light := (file%2 == 1) != (rank%2 == 1)
			l = append(l, spot{len(l), file, rank, name, light})
		}
	}
	return l
}

// outside returns numbers that are no squares of a board.
func outside(s api.Size) []int {
	count := len(spots(s))
	l := []int{count, count + 1}
	for _, n := range numbers {
		if n < 0 || n >= count {
			l = append(l, n)
		}
	}
	return l
}

// samples returns sets of a board: none, each square, each file, each rank, some patterns, and all.
func samples(s api.Size) []api.Squares {
	l := []api.Squares{0}
	files, ranks := make([]api.Squares, s.Files), make([]api.Squares, s.Ranks)
	var light, mixed, all api.Squares
	for _, c := range spots(s) {
		one := api.Squares(1) << c.at
		l = append(l, one)
		files[c.file] |= one
		ranks[c.rank] |= one
		all |= one
		if c.light {
			light |= one
		}
		if c.at*c.at%7 < 3 {
			mixed |= one
		}
	}
	return slices.Concat(l, files, ranks, []api.Squares{light, mixed, all &^ mixed, all})
}

// P1.1

func TestValidSize(t *testing.T) {
	for _, files := range numbers {
		for _, ranks := range numbers {
			s := api.Size{Files: files, Ranks: ranks}
			if want := slices.Contains(sizes(), s); square.ValidSize(s) != want {
				t.Error(s, "want", want)
			}
		}
	}
	for _, s := range sizes() {
		if !square.ValidSize(s) {
			t.Error(s, "is valid")
		}
	}
	for _, s := range badSizes {
		if square.ValidSize(s) {
			t.Error(s, "is not valid")
		}
	}
}

func TestCount(t *testing.T) {
	for _, s := range sizes() {
		if n, e := square.Count(s); n != len(spots(s)) || e != api.OK {
			t.Error(s, n, e)
		}
	}
	if n, e := square.Count(api.Size{Files: 3, Ranks: 4}); n != 12 || e != api.OK {
		t.Error(n, e)
	}
	for _, s := range append(badSizes, api.Size{Files: 8, Ranks: 9}) {
		if n, e := square.Count(s); n != 0 || e != api.ErrArg {
			t.Error(s, n, e)
		}
	}
}

func TestValid(t *testing.T) {
	for _, s := range sizes() {
		for _, c := range spots(s) {
			if !square.Valid(s, c.at) {
				t.Error(s, c.at, "is a square")
			}
		}
		for _, n := range outside(s) {
			if square.Valid(s, n) {
				t.Error(s, n, "is no square")
			}
		}
	}
	for _, s := range badSizes {
		for _, n := range numbers {
			if square.Valid(s, n) {
				t.Error(s, n, "is no square")
			}
		}
	}
}

// P1.2

func TestAt(t *testing.T) {
	for _, s := range sizes() {
		for _, c := range spots(s) {
			if at, e := square.At(s, c.file, c.rank); at != c.at || e != api.OK {
				t.Error(s, c, at, e)
			}
		}
		for _, file := range append(numbers, s.Files, s.Ranks) {
			for _, rank := range append(numbers, s.Files, s.Ranks) {
				if 0 <= file && file < s.Files && 0 <= rank && rank < s.Ranks {
					continue
				}
				if at, e := square.At(s, file, rank); at != 0 || e != api.ErrRange {
					t.Error(s, file, rank, at, e)
				}
			}
		}
	}
	if at, e := square.At(api.Size{Files: 5, Ranks: 4}, 2, 3); at != 17 || e != api.OK {
		t.Error(at, e)
	}
}

// The size is looked at before the file and the rank.
func TestAtOrder(t *testing.T) {
	for _, s := range badSizes {
		for _, n := range []int{-1, 0, 8} {
			if at, e := square.At(s, n, n); at != 0 || e != api.ErrArg {
				t.Error(s, n, at, e)
			}
		}
	}
}

func TestPlace(t *testing.T) {
	for _, s := range sizes() {
		for _, c := range spots(s) {
			if file, rank, e := square.Place(s, c.at); file != c.file || rank != c.rank || e != api.OK {
				t.Error(s, c, file, rank, e)
			}
		}
		for _, n := range outside(s) {
			if file, rank, e := square.Place(s, n); file != 0 || rank != 0 || e != api.ErrArg {
				t.Error(s, n, file, rank, e)
			}
		}
	}
	for _, s := range badSizes {
		if file, rank, e := square.Place(s, 4); file != 0 || rank != 0 || e != api.ErrArg {
			t.Error(s, file, rank, e)
		}
	}
}

func TestLight(t *testing.T) {
	for _, s := range sizes() {
		for _, c := range spots(s) {
			if light, e := square.Light(s, c.at); light != c.light || e != api.OK {
				t.Error(s, c, light, e)
			}
		}
		for _, n := range outside(s) {
			if light, e := square.Light(s, n); light || e != api.ErrArg {
				t.Error(s, n, light, e)
			}
		}
	}
	for _, s := range badSizes {
		if light, e := square.Light(s, 1); light || e != api.ErrArg {
			t.Error(s, light, e)
		}
	}
}

// P1.3

func TestName(t *testing.T) {
	for _, s := range sizes() {
		for _, c := range spots(s) {
			if name, e := square.Name(s, c.at); name != c.name || e != api.OK {
				t.Error(s, c, name, e)
			}
		}
		for _, n := range outside(s) {
			if name, e := square.Name(s, n); name != "" || e != api.ErrArg {
				t.Error(s, n, name, e)
			}
		}
	}
	for _, s := range badSizes {
		if name, e := square.Name(s, 0); name != "" || e != api.ErrArg {
			t.Error(s, name, e)
		}
	}
}

// All strings of two bytes are tried on each board.
func TestParse(t *testing.T) {
	for _, s := range sizes() {
		squares := map[string]int{}
		for _, c := range spots(s) {
			squares[c.name] = c.at
		}
		for i := range 1 << 16 {
			name := string([]byte{byte(i >> 8), byte(i)})
			want, found := squares[name]
			at, e := square.Parse(s, name)
			if found && (at != want || e != api.OK) || !found && (at != 0 || e != api.ErrFormat) {
				t.Errorf("%v %q %d %d", s, name, at, e)
			}
		}
	}
}

func TestParseNoName(t *testing.T) {
	for _, s := range sizes() {
		for _, name := range []string{"", "a", "1", "a1 ", " a1", "a11", "a01", "aa1", "a1a1", "a1\x00", "é", "ａ1", "a１"} {
			if at, e := square.Parse(s, name); at != 0 || e != api.ErrFormat {
				t.Errorf("%v %q %d %d", s, name, at, e)
			}
		}
	}
	s := api.Size{Files: 5, Ranks: 4}
	for _, name := range []string{"f1", "E1", "a5", "a0", "1a", "`1", "a/"} {
		if at, e := square.Parse(s, name); at != 0 || e != api.ErrFormat {
			t.Errorf("%q %d %d", name, at, e)
		}
	}
	if at, e := square.Parse(s, "e1"); at != 4 || e != api.OK {
		t.Error(at, e)
	}
}

// The size is looked at before the name.
func TestParseOrder(t *testing.T) {
	for _, s := range badSizes {
		for _, name := range []string{"a1", "", "z9"} {
			if at, e := square.Parse(s, name); at != 0 || e != api.ErrArg {
				t.Errorf("%v %q %d %d", s, name, at, e)
			}
		}
	}
}

// P1.4

// steps returns how many steps a king needs to each square, by trying all of them.
func steps(s api.Size, from int) []int {
	all := spots(s)
	need := make([]int, len(all))
	for i := range need {
		need[i] = -1
	}
	need[from] = 0
	queue := []int{from}
	for len(queue) > 0 {
		a := all[queue[0]]
		queue = queue[1:]
		for _, b := range all {
			near := b.file >= a.file-1 && b.file <= a.file+1 && b.rank >= a.rank-1 && b.rank <= a.rank+1
			if near && need[b.at] < 0 {
				need[b.at] = need[a.at] + 1
				queue = append(queue, b.at)
			}
		}
	}
	return need
}

func TestDistance(t *testing.T) {
	for _, s := range sizes() {
		for _, a := range spots(s) {
			for b, want := range steps(s, a.at) {
				if d, e := square.Distance(s, a.at, b); d != want || e != api.OK {
					t.Error(s, a.at, b, d, e, "want", want)
				}
			}
		}
	}
	s := api.Size{Files: 8, Ranks: 8}
	for _, c := range [][3]int{{0, 63, 7}, {0, 2, 2}, {5, 5, 0}, {7, 8, 7}, {56, 1, 7}} {
		if d, e := square.Distance(s, c[0], c[1]); d != c[2] || e != api.OK {
			t.Error(c, d, e)
		}
	}
}

func TestDistanceErrors(t *testing.T) {
	for _, s := range sizes() {
		for _, n := range outside(s) {
			for _, c := range [][2]int{{n, 0}, {0, n}, {n, n}} {
				if d, e := square.Distance(s, c[0], c[1]); d != 0 || e != api.ErrArg {
					t.Error(s, c, d, e)
				}
			}
		}
	}
	for _, s := range badSizes {
		if d, e := square.Distance(s, 0, 1); d != 0 || e != api.ErrArg {
			t.Error(s, d, e)
		}
	}
}

// P1.5

func TestAll(t *testing.T) {
	for _, s := range sizes() {
		var want api.Squares
		for _, c := range spots(s) {
			want |= 1 << c.at
		}
		if set, e := square.All(s); set != want || e != api.OK {
			t.Error(s, set, e)
		}
	}
	if set, e := square.All(api.Size{Files: 3, Ranks: 3}); set != 511 || e != api.OK {
		t.Error(set, e)
	}
	if set, e := square.All(api.Size{Files: 8, Ranks: 8}); set != math.MaxUint64 || e != api.OK {
		t.Error(set, e)
	}
	for _, s := range badSizes {
		if set, e := square.All(s); set != 0 || e != api.ErrArg {
			t.Error(s, set, e)
		}
	}
}

func TestOf(t *testing.T) {
	for _, s := range sizes() {
		for _, want := range samples(s) {
			var l []int
			for _, c := range spots(s) {
				if want&(1<<c.at) != 0 {
					l = append(l, c.at, c.at)
				}
			}
			slices.Reverse(l)
			before := slices.Clone(l)
			if set, e := square.Of(s, l...); set != want || e != api.OK || !slices.Equal(l, before) {
				t.Error(s, want, set, e)
			}
		}
	}
	if set, e := square.Of(api.Size{Files: 3, Ranks: 3}, 0, 8, 0); set != 257 || e != api.OK {
		t.Error(set, e)
	}
}

func TestOfErrors(t *testing.T) {
	for _, s := range sizes() {
		for _, n := range outside(s) {
			for _, l := range [][]int{{n}, {n, 0}, {0, n}, {0, 1, n, 2}, {n, n}} {
				if set, e := square.Of(s, l...); set != 0 || e != api.ErrArg {
					t.Error(s, l, set, e)
				}
			}
		}
	}
	for _, s := range badSizes {
		for _, l := range [][]int{nil, {}, {0}, {-1}} {
			if set, e := square.Of(s, l...); set != 0 || e != api.ErrArg {
				t.Error(s, l, set, e)
			}
		}
	}
}

func TestHas(t *testing.T) {
	for at := range 64 {
		one := api.Squares(1) << at
		for _, set := range []api.Squares{one, math.MaxUint64, one | one<<1} {
			if !square.Has(set, at) {
				t.Error(set, "has", at)
			}
		}
		for _, set := range []api.Squares{0, ^one, one << 1, one >> 1} {
			if square.Has(set, at) {
				t.Error(set, "has no", at)
			}
		}
	}
	for _, n := range numbers {
		if square.Has(math.MaxUint64, n) != (0 <= n && n <= 63) {
			t.Error(n)
		}
	}
}

func TestEach(t *testing.T) {
	sets := append(samples(api.Size{Files: 8, Ranks: 8}), samples(api.Size{Files: 3, Ranks: 7})...)
	for _, set := range append(sets, 1<<63|5) {
		var want []int
		for at := range 64 {
			if set&(1<<at) != 0 {
				want = append(want, at)
			}
		}
		seq := square.Each(set)
		if seq == nil {
			t.Fatal(set, "nil")
		}
		for range 2 {
			if l := slices.Collect(seq); !slices.Equal(l, want) {
				t.Error(set, l)
			}
		}
	}
}

// A loop that is left early does not change what the iterator goes over, and is not called again.
func TestEachEarly(t *testing.T) {
	seq := square.Each(1<<63 | 1<<9 | 5)
	want := []int{0, 2, 9, 63}
	for stop := range want {
		calls := 0
		seq(func(at int) bool {
			if at != want[calls] {
				t.Error(stop, calls, at)
			}
			calls++
			return calls <= stop
		})
		if calls != stop+1 {
			t.Error(stop, calls)
		}
		if l := slices.Collect(seq); !slices.Equal(l, want) {
			t.Error(stop, l)
		}
	}
}

func TestEachNested(t *testing.T) {
	seq := square.Each(1<<40 | 3)
	var l []int
	for a := range seq {
		for b := range seq {
			l = append(l, a*100+b)
		}
	}
	if !slices.Equal(l, []int{0, 1, 40, 100, 101, 140, 4000, 4001, 4040}) {
		t.Error(l)
	}
}

// P1.6

// shifted looks for the place of each square after the shift among the places of a board.
func shifted(s api.Size, set api.Squares, files, ranks int) api.Squares {
	board := spots(s)
	var want api.Squares
	for at := range board {
		file, rank := board[at].file+files, board[at].rank+ranks
		found := slices.IndexFunc(board, func(c spot) bool { return c.file == file && c.rank == rank })
		if found >= 0 && set&(1<<at) != 0 {
			want |= 1 << found
		}
	}
	return want
}

func TestShift(t *testing.T) {
	for _, s := range []api.Size{{Files: 3, Ranks: 3}, {Files: 8, Ranks: 8}, {Files: 3, Ranks: 8}, {Files: 8, Ranks: 3}, {Files: 5, Ranks: 4}} {
		for _, set := range samples(s) {
			for files := -s.Files - 1; files <= s.Files+1; files++ {
				for ranks := -s.Ranks - 1; ranks <= s.Ranks+1; ranks++ {
					want := shifted(s, set, files, ranks)
					if got, e := square.Shift(s, set, files, ranks); got != want || e != api.OK {
						t.Fatal(s, set, files, ranks, got, e, "want", want)
					}
				}
			}
		}
	}
}

func TestShiftAnyNumbers(t *testing.T) {
	for _, s := range sizes() {
		all, _ := square.All(s)
		for _, files := range numbers {
			for _, ranks := range numbers {
				want := shifted(s, all, files, ranks)
				if got, e := square.Shift(s, all, files, ranks); got != want || e != api.OK {
					t.Error(s, files, ranks, got, e, "want", want)
				}
			}
		}
	}
}

func TestShiftExamples(t *testing.T) {
	s := api.Size{Files: 3, Ranks: 3}
	for _, c := range []struct {
		set          api.Squares
		files, ranks int
		want         api.Squares
	}{{273, 1, 0, 34}, {273, 0, 1, 136}, {273, 0, 0, 273}, {511, 3, 0, 0}, {511, 2, -2, 4}, {0, 1, 1, 0}, {4, 1, 0, 0}, {8, -1, 0, 0}} {
		if set, e := square.Shift(s, c.set, c.files, c.ranks); set != c.want || e != api.OK {
			t.Error(c, set, e)
		}
	}
}

// A set that is not one of the board is an error even if its squares would leave the board.
func TestShiftErrors(t *testing.T) {
	for _, s := range sizes() {
		for at := len(spots(s)); at < 64; at++ {
			for _, set := range []api.Squares{1 << at, 1<<at | 1} {
				for _, n := range []int{0, 1, -1, 8, math.MinInt, math.MaxInt} {
					if got, e := square.Shift(s, set, n, n); got != 0 || e != api.ErrArg {
						t.Error(s, at, n, got, e)
					}
				}
			}
		}
	}
	for _, s := range badSizes {
		for _, set := range []api.Squares{0, 1, math.MaxUint64} {
			if got, e := square.Shift(s, set, 0, 0); got != 0 || e != api.ErrArg {
				t.Error(s, set, got, e)
			}
		}
	}
}

// P1.7

func TestInverses(t *testing.T) {
	for _, s := range sizes() {
		count, _ := square.Count(s)
		for at := range count {
			file, rank, e := square.Place(s, at)
			if back, g := square.At(s, file, rank); back != at || e != api.OK || g != api.OK {
				t.Error(s, at, back, e, g)
			}
			name, e := square.Name(s, at)
			if back, g := square.Parse(s, name); back != at || e != api.OK || g != api.OK {
				t.Error(s, at, back, e, g)
			}
		}
	}
}

func TestDistanceLaws(t *testing.T) {
	for _, s := range []api.Size{{Files: 3, Ranks: 3}, {Files: 3, Ranks: 8}, {Files: 8, Ranks: 4}, {Files: 8, Ranks: 8}} {
		count, _ := square.Count(s)
		between := make([][]int, count)
		for a := range count {
			for b := range count {
				d, e := square.Distance(s, a, b)
				if e != api.OK || (d == 0) != (a == b) {
					t.Error(s, a, b, d, e)
				}
				between[a] = append(between[a], d)
			}
		}
		for a := range count {
			for b := range count {
				if between[a][b] != between[b][a] {
					t.Error(s, a, b, "is not the same in both directions")
				}
				for c := range count {
					if between[a][b] > between[a][c]+between[c][b] {
						t.Error(s, a, b, "is nearer by way of", c)
					}
				}
			}
		}
	}
}

// What comes back are the squares whose place after the shift is on the board.
func TestShiftBack(t *testing.T) {
	for _, s := range []api.Size{{Files: 3, Ranks: 3}, {Files: 8, Ranks: 8}, {Files: 4, Ranks: 7}} {
		for _, set := range samples(s) {
			for files := -8; files <= 8; files++ {
				for ranks := -8; ranks <= 8; ranks++ {
					there, e := square.Shift(s, set, files, ranks)
					back, g := square.Shift(s, there, -files, -ranks)
					if want := stayed(s, set, files, ranks); back != want || e != api.OK || g != api.OK {
						t.Fatal(s, set, files, ranks, back, "want", want, e, g)
					}
				}
			}
		}
	}
}

func stayed(s api.Size, set api.Squares, files, ranks int) api.Squares {
	var rest api.Squares
	for _, c := range spots(s) {
		_, e := square.At(s, c.file+files, c.rank+ranks)
		if e == api.OK && set&(1<<c.at) != 0 {
			rest |= 1 << c.at
		}
	}
	return rest
}

// P1 of DOC.md: whatever the arguments are, each function returns, and with an error everything else is zero.
func TestAnyArguments(t *testing.T) {
	var all []api.Size
	for _, n := range numbers {
		all = append(all, api.Size{Files: n, Ranks: n}, api.Size{Files: n, Ranks: 8}, api.Size{Files: 3, Ranks: n})
	}
	for _, s := range append(all, badSizes...) {
		square.ValidSize(s)
		zero(t, s, square.Count)
		zero(t, s, square.All)
		for _, a := range numbers {
			square.Valid(s, a)
			one := func(f func(api.Size, int) (int, api.Errno)) {
				zero(t, s, func(s api.Size) (int, api.Errno) { return f(s, a) })
			}
			one(func(s api.Size, a int) (int, api.Errno) {
				file, rank, e := square.Place(s, a)
				return file | rank, e
			})
			zero(t, s, func(s api.Size) (string, api.Errno) { return square.Name(s, a) })
			zero(t, s, func(s api.Size) (bool, api.Errno) { return square.Light(s, a) })
			zero(t, s, func(s api.Size) (api.Squares, api.Errno) { return square.Of(s, a, 0, a) })
			for _, b := range numbers {
				one(func(s api.Size, a int) (int, api.Errno) { return square.At(s, a, b) })
				one(func(s api.Size, a int) (int, api.Errno) { return square.Distance(s, a, b) })
				zero(t, s, func(s api.Size) (api.Squares, api.Errno) { return square.Shift(s, 257, a, b) })
				zero(t, s, func(s api.Size) (api.Squares, api.Errno) { return square.Shift(s, math.MaxUint64, a, b) })
			}
		}
	}
}

// zero calls a function and checks that its result is zero if there is an error.
func zero[T comparable](t *testing.T, s api.Size, f func(api.Size) (T, api.Errno)) {
	t.Helper()
	var none T
	if got, e := f(s); e != api.OK && got != none {
		t.Error(s, got, e)
	}
}
