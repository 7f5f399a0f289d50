package ray_test

import (
	"math"
	"slices"
	"strings"
	"testing"

	"caissa/api"
	"caissa/ray"
	"caissa/square"
)

// numbers are at, beside and far beyond every limit of the layer; some are those of squares or steps if only their last bits are looked at.
var numbers = []int{math.MinInt, math.MinInt + 1, math.MinInt + 7, -1<<32 - 1, -1<<32 + 1, math.MinInt32, -257, -255, -65, -64, -9, -8, -7, -3, -2, -1, 0, 1, 2, 3, 7, 8, 9, 11, 12, 16, 32, 62, 63, 64, 65, 127, 255, 256, 257, math.MaxInt32, 1 << 32, 1<<32 + 1, 1 << 62, math.MaxInt - 7, math.MaxInt - 1, math.MaxInt}

// badSizes are sizes that are not valid; the number of squares of some of them is that of a valid one, or overflows to it.
var badSizes = []api.Size{{}, {Files: 2, Ranks: 3}, {Files: 3, Ranks: 2}, {Files: 2, Ranks: 6}, {Files: 6, Ranks: 2}, {Files: 9, Ranks: 3}, {Files: 3, Ranks: 9}, {Files: 9, Ranks: 9}, {Files: 1, Ranks: 9}, {Files: 0, Ranks: 8}, {Files: 8, Ranks: 0}, {Files: -3, Ranks: -3}, {Files: 8, Ranks: -8}, {Files: 1<<62 + 3, Ranks: 4}, {Files: 259, Ranks: 3}, {Files: math.MaxInt, Ranks: math.MaxInt}, {Files: math.MinInt, Ranks: math.MinInt}}

// kinds are the kinds of pieces that have a reach.
var kinds = []api.Piece{2, 3, 4, 5, 6}

const everything = api.Squares(math.MaxUint64)

// sizes returns all valid sizes.
func sizes() []api.Size {
	var l []api.Size
	for files := 3; files <= 8; files++ {
		for ranks := 3; ranks <= 8; ranks++ {
			l = append(l, api.Size{Files: files, Ranks: ranks})
		}
	}
	return l
}

// few returns the sizes with the fewest and the most files and ranks, and some in between, for what takes long.
func few() []api.Size {
	return []api.Size{{Files: 3, Ranks: 3}, {Files: 3, Ranks: 8}, {Files: 8, Ranks: 3}, {Files: 5, Ranks: 6}, {Files: 8, Ranks: 8}}
}

// spot is a square with its file and rank, counted without the functions of the program.
type spot struct{ at, file, rank int }

func spots(s api.Size) []spot {
	var l []spot
	for rank := range s.Ranks {
		for file := range s.Files {
			l = append(l, spot{len(l), file, rank})
		}
	}
	return l
}

// find returns the number of the square on a file and a rank, or -1.
func find(s api.Size, file, rank int) int {
	for _, c := range spots(s) {
		if c.file == file && c.rank == rank {
			return c.at
		}
	}
	return -1
}

// outside returns numbers that are no squares of a board.
func outside(s api.Size) []int {
	count := len(spots(s))
	l := []int{count, count + 1, -count}
	for _, n := range numbers {
		if n < 0 || n >= count {
			l = append(l, n)
		}
	}
	return l
}

// samples returns sets of a board: none, each square, each rank and file, patterns, dense and sparse mixtures, and all.
func samples(s api.Size) []api.Squares {
	l := []api.Squares{0}
	files, ranks := make([]api.Squares, s.Files), make([]api.Squares, s.Ranks)
	var light, all api.Squares
	mixed := make([]api.Squares, 12)
	for _, c := range spots(s) {
		one := api.Squares(1) << c.at
		l = append(l, one)
		files[c.file] |= one
		ranks[c.rank] |= one
		all |= one
		if (c.file+c.rank)%2 == 1 {
			light |= one
		}
		for i := range mixed {
			if (c.at*c.at+c.at*i+i*i)*37%101 < 8*i+4 {
				mixed[i] |= one
			}
		}
	}
	return slices.Concat(l, files, ranks, mixed, []api.Squares{light, all &^ light, all})
}

// noSets returns sets that are not of a board: each has at least one square too many.
func noSets(s api.Size) []api.Squares {
	var l []api.Squares
	for at := len(spots(s)); at < 64; at++ {
		l = append(l, 1<<at, 1<<at|1, everything&^1)
	}
	return l
}

func contains(set api.Squares, at int) bool { return set>>at&1 == 1 }

// named returns the number of a square with a name on a board of 8 times 8 squares.
func named(name string) int { return int(name[0]-'a') + 8*int(name[1]-'1') }

// names returns the set of the squares with some names, which are divided by spaces, on a board of 8 times 8 squares.
func names(text string) api.Squares {
	var set api.Squares
	for _, name := range strings.Fields(text) {
		set |= 1 << named(name)
	}
	return set
}

var usual = api.Size{Files: 8, Ranks: 8}

// P4.1

// along returns the squares that are reached by one, two, three and so on steps.
func along(s api.Size, from spot, files, ranks int) []int {
	var l []int
	if files == 0 && ranks == 0 || max(files, -files) > 8 || max(ranks, -ranks) > 8 {
		return l
	}
	for n := 1; ; n++ {
		at := find(s, from.file+n*files, from.rank+n*ranks)
		if at < 0 {
			return l
		}
		l = append(l, at)
	}
}

// All steps are tried by which a square may be reached at all, and some more, those that are not of a piece too.
func TestRay(t *testing.T) {
	for _, s := range sizes() {
		for _, c := range spots(s) {
			for files := -s.Files - 1; files <= s.Files+1; files++ {
				for ranks := -s.Ranks - 1; ranks <= s.Ranks+1; ranks++ {
					want := along(s, c, files, ranks)
					if l := slices.Collect(ray.Ray(s, c.at, files, ranks)); !slices.Equal(l, want) {
						t.Fatal(s, c, files, ranks, l, "want", want)
					}
				}
			}
		}
	}
}

func TestRayExamples(t *testing.T) {
	for _, c := range []struct {
		from         string
		files, ranks int
		want         string
	}{
		{"a1", 1, 1, "b2 c3 d4 e5 f6 g7 h8"}, {"g7", 1, 1, "h8"}, {"a1", 0, 0, ""}, {"h8", 0, 0, ""},
		{"h1", -1, 0, "g1 f1 e1 d1 c1 b1 a1"}, {"c1", -1, 1, "b2 a3"}, {"d4", 0, -1, "d3 d2 d1"},
		{"b1", 0, 2, "b3 b5 b7"}, {"a1", 3, 2, "d3 g5"}, {"a1", 7, 7, "h8"}, {"h8", -7, 0, "a8"}, {"h1", 1, 0, ""}, {"h1", 1, 1, ""}, {"a8", -1, 0, ""}, {"a1", 8, 0, ""}, {"h1", -8, 1, ""},
	} {
		var want []int
		for _, name := range strings.Fields(c.want) {
			want = append(want, named(name))
		}
		if l := slices.Collect(ray.Ray(usual, named(c.from), c.files, c.ranks)); !slices.Equal(l, want) {
			t.Error(c, l)
		}
	}
}

// Numbers however great or small lead to no square, also where their sum with a file or a rank overflows.
func TestRayAnyNumbers(t *testing.T) {
	for _, s := range few() {
		for _, c := range spots(s) {
			for _, files := range numbers {
				for _, ranks := range numbers {
					want := along(s, c, files, ranks)
					if l := slices.Collect(ray.Ray(s, c.at, files, ranks)); !slices.Equal(l, want) {
						t.Fatal(s, c, files, ranks, l, "want", want)
					}
				}
			}
		}
	}
}

// If there is no such square or size, the iterator goes over nothing, but it is there.
func TestRayNothing(t *testing.T) {
	nothing := func(s api.Size, from, files, ranks int) {
		t.Helper()
		seq := ray.Ray(s, from, files, ranks)
		if seq == nil {
			t.Fatal(s, from, files, ranks, "nil")
		}
		for at := range seq {
			t.Fatal(s, from, files, ranks, at)
		}
	}
	for _, s := range sizes() {
		for _, n := range outside(s) {
			for files := -2; files <= 2; files++ {
				for ranks := -2; ranks <= 2; ranks++ {
					nothing(s, n, files, ranks)
				}
			}
		}
		for _, c := range spots(s) {
			nothing(s, c.at, 0, 0)
		}
	}
	for _, s := range badSizes {
		for _, n := range numbers {
			nothing(s, n, 1, 0)
			nothing(s, n, 0, 1)
			nothing(s, n, -1, -1)
			nothing(s, n, 0, 0)
		}
	}
}

// A loop that is left early does not go on, and does not change what the iterator goes over when it is used again.
func TestRayEarly(t *testing.T) {
	for _, c := range []struct {
		from         string
		files, ranks int
	}{{"a1", 1, 1}, {"h3", -1, 0}, {"b8", 0, -2}} {
		seq := ray.Ray(usual, named(c.from), c.files, c.ranks)
		want := along(usual, spots(usual)[named(c.from)], c.files, c.ranks)
		for stop := range want {
			calls := 0
			seq(func(at int) bool {
				if at != want[calls] {
					t.Error(c, stop, calls, at)
				}
				calls++
				return calls <= stop
			})
			if calls != stop+1 {
				t.Error(c, stop, calls)
			}
			for range 2 {
				if l := slices.Collect(seq); !slices.Equal(l, want) {
					t.Error(c, stop, l)
				}
			}
		}
	}
}

func TestRayNested(t *testing.T) {
	seq := ray.Ray(usual, named("a6"), 0, 1)
	var l []int
	for a := range seq {
		for b := range seq {
			l = append(l, a, b)
		}
	}
	if a7, a8 := named("a7"), named("a8"); !slices.Equal(l, []int{a7, a7, a7, a8, a8, a7, a8, a8}) {
		t.Error(l)
	}
}

// P4.2

// line is what the chapter says of two squares; on reports whether they are on a line.
type line struct {
	on           bool
	files, ranks int
	between      api.Squares
}

// lineOf tries each direction, with steps from the first square until the second one is there.
func lineOf(s api.Size, a, b spot) line {
	for files := -1; files <= 1; files++ {
		for ranks := -1; ranks <= 1; ranks++ {
			var before api.Squares
			for _, at := range along(s, a, files, ranks) {
				if at == b.at {
					return line{true, files, ranks, before}
				}
				before |= 1 << at
			}
		}
	}
	return line{}
}

// check compares Direction and Between with what they must return.
func (l line) check(t *testing.T, s api.Size, a, b int) {
	t.Helper()
	want := api.OK
	if !l.on {
		want = api.ErrNone
	}
	if files, ranks, e := ray.Direction(s, a, b); files != l.files || ranks != l.ranks || e != want {
		t.Error("Direction", s, a, b, files, ranks, e, "want", l)
	}
	if set, e := ray.Between(s, a, b); set != l.between || e != want {
		t.Error("Between", s, a, b, set, e, "want", l)
	}
}

func TestLines(t *testing.T) {
	for _, s := range sizes() {
		for _, a := range spots(s) {
			for _, b := range spots(s) {
				want := lineOf(s, a, b)
				files, ranks := max(a.file-b.file, b.file-a.file), max(a.rank-b.rank, b.rank-a.rank)
				if want.on != (a.at != b.at && (files == 0 || ranks == 0 || files == ranks)) {
					t.Fatal(s, a, b, want)
				}
				want.check(t, s, a.at, b.at)
			}
		}
	}
}

func TestLinesExamples(t *testing.T) {
	for _, c := range []struct {
		a, b string
		line
	}{
		{"a1", "d4", line{true, 1, 1, names("b2 c3")}}, {"a1", "a2", line{true, 0, 1, 0}}, {"a1", "b3", line{}},
		{"h8", "h1", line{true, 0, -1, names("h7 h6 h5 h4 h3 h2")}}, {"e4", "d4", line{true, -1, 0, 0}}, {"c1", "a3", line{true, -1, 1, names("b2")}},
		{"a1", "h8", line{true, 1, 1, names("b2 c3 d4 e5 f6 g7")}}, {"a8", "h1", line{true, 1, -1, names("b7 c6 d5 e4 f3 g2")}}, {"g5", "e3", line{true, -1, -1, names("f4")}}, {"b6", "e6", line{true, 1, 0, names("c6 d6")}},
		{"e4", "e4", line{}}, {"a1", "a1", line{}}, {"b1", "c3", line{}}, {"a1", "c5", line{}}, {"a1", "h7", line{}}, {"h1", "a2", line{}}, {"c3", "g5", line{}}, {"d4", "g8", line{}},
	} {
		c.check(t, usual, named(c.a), named(c.b))
	}
}

// A number that is not that of a square comes before the question whether there is a line.
func TestLinesErrors(t *testing.T) {
	wrong := func(s api.Size, a, b int) {
		t.Helper()
		if files, ranks, e := ray.Direction(s, a, b); files != 0 || ranks != 0 || e != api.ErrArg {
			t.Error("Direction", s, a, b, files, ranks, e)
		}
		if set, e := ray.Between(s, a, b); set != 0 || e != api.ErrArg {
			t.Error("Between", s, a, b, set, e)
		}
	}
	for _, s := range sizes() {
		for _, n := range outside(s) {
			for _, c := range spots(s) {
				wrong(s, n, c.at)
				wrong(s, c.at, n)
			}
			for _, m := range outside(s) {
				wrong(s, n, m)
			}
		}
	}
	for _, s := range badSizes {
		for _, a := range numbers {
			wrong(s, a, a)
			wrong(s, a, 1)
			wrong(s, 0, a)
		}
	}
}

// P4.3

// apart are the differences of the files and of the ranks of two squares in magnitude.
type apart struct{ files, ranks int }

// pair is what must be known of two squares to tell whether a piece reaches the one from the other.
type pair struct {
	apart
	line
}

// pairs returns all pairs of a board.
func pairs(s api.Size) [][]pair {
	var all [][]pair
	for _, a := range spots(s) {
		var l []pair
		for _, b := range spots(s) {
			l = append(l, pair{apart{max(a.file-b.file, b.file-a.file), max(a.rank-b.rank, b.rank-a.rank)}, lineOf(s, a, b)})
		}
		all = append(all, l)
	}
	return all
}

// reached tells whether a piece reaches the second square of a pair from the first one.
func (p pair) reached(kind api.Piece, occupied api.Squares) bool {
	open := p.on && p.between&occupied == 0
	switch kind {
	case 2:
		return p.apart == apart{1, 2} || p.apart == apart{2, 1}
	case 3:
		return open && p.apart.files == p.apart.ranks
	case 4:
		return open && (p.apart.files == 0 || p.apart.ranks == 0)
	case 5:
		return open
	}
	return p.apart == apart{1, 0} || p.apart == apart{0, 1} || p.apart == apart{1, 1}
}

// reach puts together what a piece reaches.
func reach(from []pair, kind api.Piece, occupied api.Squares) api.Squares {
	var set api.Squares
	for at, p := range from {
		if p.reached(kind, occupied) {
			set |= 1 << at
		}
	}
	return set
}

// checkReaches compares the reaches of all kinds from a square for some occupied sets with what they must be; it makes no difference whether the square itself is occupied.
func checkReaches(t *testing.T, s api.Size, from int, to []pair, sets []api.Squares) {
	t.Helper()
	for _, kind := range kinds {
		for _, occupied := range sets {
			want := reach(to, kind, occupied)
			for _, set := range []api.Squares{occupied | 1<<from, occupied &^ (1 << from)} {
				if got, e := ray.Reach(s, kind, from, set); got != want || e != api.OK {
					t.Fatal(s, kind, from, set, got, e, "want", want)
				}
			}
		}
	}
}

func TestReach(t *testing.T) {
	for _, s := range sizes() {
		for from, to := range pairs(s) {
			checkReaches(t, s, from, to, samples(s))
		}
	}
}

// All sets of some small boards are tried.
func TestReachAllSets(t *testing.T) {
	for _, s := range []api.Size{{Files: 3, Ranks: 3}, {Files: 4, Ranks: 3}, {Files: 3, Ranks: 4}} {
		var sets []api.Squares
		for set := range 1 << len(spots(s)) {
			sets = append(sets, api.Squares(set))
		}
		for from, to := range pairs(s) {
			checkReaches(t, s, from, to, sets)
		}
	}
}

func TestReachExamples(t *testing.T) {
	for _, c := range []struct {
		kind           api.Piece
		from           string
		occupied, want api.Squares
	}{
		{api.Knight, "b1", 0, names("a3 c3 d2")}, {api.Knight, "b1", everything, names("a3 c3 d2")}, {api.Knight, "h8", 0, names("f7 g6")}, {api.Knight, "d4", names("d5 e4"), names("b3 b5 c2 c6 e2 e6 f3 f5")},
		{api.Rook, "a1", names("a3 c1"), names("a2 a3 b1 c1")}, {api.Rook, "h4", names("h4 g4 h7"), names("g4 h5 h6 h7 h3 h2 h1")}, {api.Rook, "d4", everything, names("c4 e4 d3 d5")},
		{api.Bishop, "c1", names("d2"), names("b2 a3 d2")}, {api.Bishop, "h8", 0, names("g7 f6 e5 d4 c3 b2 a1")}, {api.Bishop, "e4", everything, names("d3 d5 f3 f5")},
		{api.Queen, "h1", names("g1 g2 h2"), names("g1 g2 h2")}, {api.Queen, "a8", names("c6 a5 e8"), names("a7 a6 a5 b7 c6 b8 c8 d8 e8")},
		{api.King, "a8", 0, names("a7 b7 b8")}, {api.King, "e4", everything, names("d3 d4 d5 e3 e5 f3 f4 f5")}, {api.King, "h4", names("h5"), names("g3 g4 g5 h3 h5")},
	} {
		if set, e := ray.Reach(usual, c.kind, named(c.from), c.occupied); set != c.want || e != api.OK {
			t.Error(c, set, e)
		}
	}
}

// wrongReach checks that a reach is an error.
func wrongReach(t *testing.T, s api.Size, kind api.Piece, from int, occupied api.Squares) {
	t.Helper()
	if set, e := ray.Reach(s, kind, from, occupied); set != 0 || e != api.ErrArg {
		t.Error(s, kind, from, occupied, set, e)
	}
}

// All numbers of the type that are not kinds from 2 to 6 are tried: pawns, fairy pieces, pieces of Black, and no pieces.
func TestReachNoKinds(t *testing.T) {
	for n := math.MinInt8; n <= math.MaxInt8; n++ {
		kind := api.Piece(n)
		for _, s := range few() {
			_, e := ray.Reach(s, kind, 4, 0)
			if slices.Contains(kinds, kind) {
				if e != api.OK {
					t.Error(s, kind, e)
				}
				continue
			}
			wrongReach(t, s, kind, 4, 0)
			wrongReach(t, s, kind, 0, 511)
			wrongReach(t, s, kind, -1, everything)
		}
	}
}

func TestReachErrors(t *testing.T) {
	for _, kind := range kinds {
		for _, s := range sizes() {
			for _, n := range outside(s) {
				wrongReach(t, s, kind, n, 0)
				wrongReach(t, s, kind, n, 5)
			}
			for _, set := range noSets(s) {
				wrongReach(t, s, kind, 0, set)
				wrongReach(t, s, kind, 8, set)
			}
		}
		for _, s := range badSizes {
			for _, n := range []int{0, 1, -1, math.MaxInt} {
				wrongReach(t, s, kind, n, 0)
				wrongReach(t, s, kind, n, everything)
			}
		}
	}
}

// P4.4

// ahead returns the square some ranks forward and some files aside, or -1.
func ahead(s api.Size, black bool, c spot, files, ranks int) int {
	if black {
		return find(s, c.file+files, c.rank-ranks)
	}
	return find(s, c.file+files, c.rank+ranks)
}

func TestPawn(t *testing.T) {
	for _, s := range sizes() {
		for _, c := range spots(s) {
			for _, black := range []bool{false, true} {
				var want api.Squares
				for _, files := range []int{-1, 1} {
					if at := ahead(s, black, c, files, 1); at >= 0 {
						want |= 1 << at
					}
				}
				if set, e := ray.Pawn(s, black, c.at); set != want || e != api.OK {
					t.Error(s, black, c, set, e, "want", want)
				}
			}
		}
	}
}

// second tells whether a pawn is on the second rank of its side on a board on which it may step over two ranks from there.
func second(s api.Size, black bool, rank int) bool {
	switch s.Ranks {
	case 6:
		return black && rank == 4 || !black && rank == 1
	case 7:
		return black && rank == 5 || !black && rank == 1
	case 8:
		return black && rank == 6 || !black && rank == 1
	}
	return false
}

// steps puts together to which squares a pawn may step.
func steps(s api.Size, black bool, c spot, occupied api.Squares) api.Squares {
	one, two := ahead(s, black, c, 0, 1), ahead(s, black, c, 0, 2)
	if one < 0 || contains(occupied, one) {
		return 0
	}
	if second(s, black, c.rank) && !contains(occupied, two) {
		return 1<<one | 1<<two
	}
	return 1 << one
}

// Besides the samples, all sets are tried that have any of the squares ahead and on the other side, and all or none of the others.
func TestSteps(t *testing.T) {
	for _, s := range sizes() {
		all := samples(s)[len(samples(s))-1]
		for _, c := range spots(s) {
			var near api.Squares
			sets := samples(s)
			for rank := c.rank - 3; rank <= c.rank+3; rank++ {
				if at := find(s, c.file, rank); at >= 0 {
					near |= 1 << at
				}
			}
			for set := near; ; set = (set - 1) & near {
				sets = append(sets, set, set|all&^near)
				if set == 0 {
					break
				}
			}
			for _, occupied := range sets {
				for _, black := range []bool{false, true} {
					want := steps(s, black, c, occupied)
					if set, e := ray.Steps(s, black, c.at, occupied); set != want || e != api.OK {
						t.Fatal(s, black, c, occupied, set, e, "want", want)
					}
				}
			}
		}
	}
}

func TestPawnExamples(t *testing.T) {
	for _, c := range []struct {
		black                    bool
		from                     string
		occupied, attacks, steps api.Squares
	}{
		{false, "a2", 0, names("b3"), names("a3 a4")}, {false, "e2", 0, names("d3 f3"), names("e3 e4")}, {false, "e2", names("e4"), names("d3 f3"), names("e3")}, {false, "e2", names("e3"), names("d3 f3"), 0}, {false, "e2", names("e3 e4"), names("d3 f3"), 0}, {false, "e2", names("e2 d3 f3 e5"), names("d3 f3"), names("e3 e4")},
		{false, "e3", 0, names("d4 f4"), names("e4")}, {false, "h7", 0, names("g8"), names("h8")}, {false, "c1", 0, names("b2 d2"), names("c2")}, {false, "c8", 0, 0, 0},
		{true, "e2", 0, names("d1 f1"), names("e1")}, {true, "h7", 0, names("g6"), names("h6 h5")}, {true, "d7", names("d5"), names("c6 e6"), names("d6")}, {true, "d7", names("d6"), names("c6 e6"), 0}, {true, "d8", 0, names("c7 e7"), names("d7")}, {true, "c1", 0, 0, 0}, {true, "a6", 0, names("b5"), names("a5")},
	} {
		attacks, e := ray.Pawn(usual, c.black, named(c.from))
		steps, f := ray.Steps(usual, c.black, named(c.from), c.occupied)
		if attacks != c.attacks || steps != c.steps || e != api.OK || f != api.OK {
			t.Error(c, attacks, steps, e, f)
		}
	}
	// On 5 times 5, a2 and a4 have the numbers 5 and 15; on 5 times 6, b2 and b5 have 6 and 21.
	for _, c := range []struct {
		ranks, from int
		black       bool
		want        api.Squares
	}{{5, 5, false, 1 << 10}, {5, 15, true, 1 << 10}, {6, 6, false, 1<<11 | 1<<16}, {6, 21, true, 1<<16 | 1<<11}, {6, 11, false, 1 << 16}} {
		if set, e := ray.Steps(api.Size{Files: 5, Ranks: c.ranks}, c.black, c.from, 0); set != c.want || e != api.OK {
			t.Error(c, set, e)
		}
	}
}

func TestPawnErrors(t *testing.T) {
	wrong := func(s api.Size, from int, occupied api.Squares) {
		t.Helper()
		for _, black := range []bool{false, true} {
			if set, e := ray.Steps(s, black, from, occupied); set != 0 || e != api.ErrArg {
				t.Error("Steps", s, black, from, occupied, set, e)
			}
			if set, e := ray.Pawn(s, black, from); !square.Valid(s, from) && (set != 0 || e != api.ErrArg) {
				t.Error("Pawn", s, black, from, set, e)
			}
		}
	}
	for _, s := range sizes() {
		for _, n := range outside(s) {
			wrong(s, n, 0)
			wrong(s, n, everything)
		}
		for _, set := range noSets(s) {
			for _, c := range spots(s) {
				wrong(s, c.at, set)
			}
		}
	}
	for _, s := range badSizes {
		for _, n := range numbers {
			wrong(s, n, 0)
			wrong(s, n, everything)
		}
	}
}

// P4.5

// reaches returns the reach of a piece from each square of a board.
func reaches(t *testing.T, s api.Size, kind api.Piece, occupied api.Squares) []api.Squares {
	t.Helper()
	var l []api.Squares
	for _, c := range spots(s) {
		set, e := ray.Reach(s, kind, c.at, occupied)
		if e != api.OK {
			t.Fatal(s, kind, c, occupied, e)
		}
		l = append(l, set)
	}
	return l
}

func TestReachBothDirections(t *testing.T) {
	for _, s := range sizes() {
		for _, occupied := range samples(s) {
			for _, kind := range kinds {
				l := reaches(t, s, kind, occupied)
				for a := range l {
					for b := range l {
						if contains(l[a], b) != contains(l[b], a) {
							t.Fatal(s, occupied, kind, a, b)
						}
					}
				}
			}
		}
	}
}

func TestReachOfQueen(t *testing.T) {
	for _, s := range sizes() {
		for _, occupied := range samples(s) {
			bishop, rook, queen := reaches(t, s, api.Bishop, occupied), reaches(t, s, api.Rook, occupied), reaches(t, s, api.Queen, occupied)
			for at := range queen {
				if queen[at] != bishop[at]|rook[at] || bishop[at]&rook[at] != 0 {
					t.Fatal(s, occupied, at)
				}
			}
		}
	}
}

func TestReachShrinks(t *testing.T) {
	for _, s := range few() {
		for _, kind := range kinds {
			for _, fewer := range samples(s) {
				wide := reaches(t, s, kind, fewer)
				for _, others := range samples(s) {
					for at, narrow := range reaches(t, s, kind, fewer|others) {
						if narrow&^wide[at] != 0 {
							t.Fatal(s, kind, fewer, others, at)
						}
					}
				}
			}
		}
	}
}

func TestPawnsBothDirections(t *testing.T) {
	for _, s := range sizes() {
		for _, a := range spots(s) {
			white, e := ray.Pawn(s, false, a.at)
			for _, b := range spots(s) {
				black, f := ray.Pawn(s, true, b.at)
				if contains(white, b.at) != contains(black, a.at) || e != api.OK || f != api.OK {
					t.Error(s, a, b, white, black, e, f)
				}
			}
		}
	}
}

// P1 of DOC.md: whatever the arguments are, each function returns, and with an error everything else is zero.
func TestAnyArguments(t *testing.T) {
	all := append(few(), badSizes...)
	for _, n := range numbers {
		all = append(all, api.Size{Files: n, Ranks: n}, api.Size{Files: n, Ranks: 8}, api.Size{Files: 3, Ranks: n})
	}
	for _, s := range all {
		for _, a := range numbers {
			for _, b := range numbers {
				anyLine(t, s, a, b)
			}
			for _, set := range []api.Squares{0, 1, 511, 1 << 63, everything} {
				anyPiece(t, s, a, set)
			}
		}
	}
}

func anyLine(t *testing.T, s api.Size, a, b int) {
	t.Helper()
	files, ranks, e := ray.Direction(s, a, b)
	set, f := ray.Between(s, a, b)
	if e != f || e != api.OK && (files != 0 || ranks != 0 || set != 0) {
		t.Error(s, a, b, files, ranks, set, e, f)
	}
	for _, n := range []int{-1, 0, 1, math.MinInt, math.MaxInt} {
		for at := range ray.Ray(s, a, b, n) {
			if !square.Valid(s, at) {
				t.Error(s, a, b, n, at)
			}
		}
	}
}

func anyPiece(t *testing.T, s api.Size, from int, set api.Squares) {
	t.Helper()
	zero := func(got api.Squares, e api.Errno) {
		t.Helper()
		if e != api.OK && got != 0 {
			t.Error(s, from, set, got, e)
		}
	}
	for _, black := range []bool{false, true} {
		zero(ray.Pawn(s, black, from))
		zero(ray.Steps(s, black, from, set))
	}
	for _, kind := range []api.Piece{math.MinInt8, -6, -1, 0, 1, 2, 3, 4, 5, 6, 7, 15, 16, math.MaxInt8} {
		zero(ray.Reach(s, kind, from, set))
	}
}
