package fold_test

import (
	"math"
	"math/rand"
	"runtime"
	"slices"
	"strings"
	"testing"

	"missive/fold"
)

// The signatures that the chapter lists.
var (
	_ func(int32) int32           = fold.One
	_ func(...int32) []int32      = fold.Fold
	_ func(string) []int32        = fold.Text
	_ func([]int32) []uint64      = fold.Parts
	_ func([]int32, []int32) bool = fold.Has
	_ func([]int32, []int32) int  = fold.Count
)

const bad = 0xfffd

// noLetters are numbers of none.
var noLetters = []int32{-1, -0x41, -0x61, math.MinInt32, math.MinInt32 + 0x41, 0xd800, 0xd801, 0xdbff, 0xdc00, 0xdfff, 0x110000, 0x110041, 0x1fffff, 0x200041, math.MaxInt32}

// folds tells those letters that are not their own folds, row by row, as the chapter words it.
func folds() map[int32]int32 {
	m := map[int32]int32{0x178: 0xff, 0x17f: 0x73, 0xb5: 0x3bc, 0x3c2: 0x3c3, 0x1e9e: 0xdf, 0x2126: 0x3c9, 0x212a: 0x6b, 0x212b: 0xe5}
	for _, row := range []struct{ from, to, but, step, more int32 }{
		{0x41, 0x5a, 0, 1, 0x20},
		{0xc0, 0xde, 0xd7, 1, 0x20},
		{0x391, 0x3a9, 0x3a2, 1, 0x20},
		{0x410, 0x42f, 0, 1, 0x20},
		{0x400, 0x40f, 0, 1, 0x50},
		{0x100, 0x12e, 0, 2, 1},
		{0x132, 0x136, 0, 2, 1},
		{0x14a, 0x176, 0, 2, 1},
		{0x139, 0x147, 0, 2, 1},
		{0x179, 0x17d, 0, 2, 1},
	} {
		for n := row.from; n <= row.to; n += row.step {
			if n != row.but {
				m[n] = n + row.more
			}
		}
	}
	return m
}

// edges are letters and their folds: where rows begin and end, what is just outside of them, what is left out, and the single ones.
var edges = []struct{ letter, fold int32 }{
	{0, 0}, {'0', '0'}, {0x40, 0x40}, {'A', 'a'}, {'M', 'm'}, {'Z', 'z'}, {0x5b, 0x5b}, {0x60, 0x60}, {'a', 'a'}, {'z', 'z'}, {0x7b, 0x7b},
	{0xb4, 0xb4}, {0xb5, 0x3bc}, {0xb6, 0xb6},
	{0xbf, 0xbf}, {0xc0, 0xe0}, {0xc9, 0xe9}, {0xd6, 0xf6}, {0xd7, 0xd7}, {0xd8, 0xf8}, {0xde, 0xfe}, {0xdf, 0xdf}, {0xe0, 0xe0}, {0xf7, 0xf7}, {0xff, 0xff},
	{0x100, 0x101}, {0x101, 0x101}, {0x112, 0x113}, {0x113, 0x113}, {0x12d, 0x12d}, {0x12e, 0x12f}, {0x12f, 0x12f}, {0x130, 0x130}, {0x131, 0x131},
	{0x132, 0x133}, {0x133, 0x133}, {0x134, 0x135}, {0x135, 0x135}, {0x136, 0x137}, {0x137, 0x137}, {0x138, 0x138},
	{0x139, 0x13a}, {0x13a, 0x13a}, {0x146, 0x146}, {0x147, 0x148}, {0x148, 0x148}, {0x149, 0x149},
	{0x14a, 0x14b}, {0x14b, 0x14b}, {0x175, 0x175}, {0x176, 0x177}, {0x177, 0x177}, {0x178, 0xff},
	{0x179, 0x17a}, {0x17a, 0x17a}, {0x17b, 0x17c}, {0x17c, 0x17c}, {0x17d, 0x17e}, {0x17e, 0x17e}, {0x17f, 's'}, {0x180, 0x180},
	{0x390, 0x390}, {0x391, 0x3b1}, {0x3a1, 0x3c1}, {0x3a2, 0x3a2}, {0x3a3, 0x3c3}, {0x3a9, 0x3c9}, {0x3aa, 0x3aa}, {0x3bc, 0x3bc}, {0x3c1, 0x3c1}, {0x3c2, 0x3c3}, {0x3c3, 0x3c3}, {0x3c9, 0x3c9},
	{0x3ff, 0x3ff}, {0x400, 0x450}, {0x40f, 0x45f}, {0x410, 0x430}, {0x42f, 0x44f}, {0x430, 0x430}, {0x44f, 0x44f}, {0x450, 0x450}, {0x45f, 0x45f}, {0x460, 0x460},
	{0x1e9d, 0x1e9d}, {0x1e9e, 0xdf}, {0x1e9f, 0x1e9f},
	{0x2125, 0x2125}, {0x2126, 0x3c9}, {0x2127, 0x2127}, {0x2129, 0x2129}, {0x212a, 'k'}, {0x212b, 0xe5}, {0x212c, 0x212c},
	{0x1e00, 0x1e00}, {0x10a0, 0x10a0}, {0xff21, 0xff21}, {bad, bad}, {0x10400, 0x10400}, {0x10041, 0x10041}, {0x10ffff, 0x10ffff},
}

// letters tells a text of US-ASCII.
func letters(s string) []int32 {
	var l []int32
	for i := range len(s) {
		l = append(l, int32(s[i]))
	}
	return l
}

// part tells three letters as a number.
func part(a, b, c int32) uint64 {
	return uint64(a)*(1<<42) + uint64(b)*(1<<21) + uint64(c)
}

// partsOf tells the parts of texts of three.
func partsOf(texts ...string) []uint64 {
	var parts []uint64
	for _, s := range texts {
		parts = append(parts, part(int32(s[0]), int32(s[1]), int32(s[2])))
	}
	return parts
}

// random tells a list of few letters, so that they repeat.
func random(r *rand.Rand, most, kinds int) []int32 {
	l := make([]int32, r.Intn(most+1))
	for i := range l {
		l[i] = 'a' + int32(r.Intn(kinds))
	}
	return l
}

// slowCount looks at each place by itself.
func slowCount(l, what []int32) int {
	many := 0
	for i := 0; i+len(what) <= len(l); i++ {
		if slices.Equal(l[i:i+len(what)], what) {
			many++
		}
	}
	return many
}

// 7.1
func TestEdgesOfRows(t *testing.T) {
	for _, c := range edges {
		if n := fold.One(c.letter); n != c.fold {
			t.Errorf("One(%x) = %x, not %x", c.letter, n, c.fold)
		}
	}
}

// 7.1, 7.4
func TestEachLettersFold(t *testing.T) {
	want := folds()
	check := func(n int32) {
		is, other := want[n]
		if !other {
			is = n
		}
		got := fold.One(n)
		if got != is {
			t.Errorf("One(%x) = %x, not %x", n, got, is)
		}
		if again := fold.One(got); again != got {
			t.Errorf("the fold of %x is %x, and that one's is %x", n, got, again)
		}
	}
	for n := int32(-0x3000); n < 0x113000; n++ {
		check(n)
	}
	for n := range int32(0x3000) {
		check(math.MinInt32 + n)
		check(math.MaxInt32 - n)
	}
	r := rand.New(rand.NewSource(1))
	for range 100000 {
		check(int32(r.Uint32()))
	}
}

// 7.1
func TestWhatIsNoLetterIsItself(t *testing.T) {
	for _, n := range noLetters {
		if got := fold.One(n); got != n {
			t.Errorf("One(%x) = %x", n, got)
		}
		if l := fold.Fold('A', n, 0xc9); !slices.Equal(l, []int32{'a', n, 0xe9}) {
			t.Errorf("Fold(A, %x, c9) = %x", n, l)
		}
	}
}

// 7.1, 7.4
func TestFoldIsOfEachOne(t *testing.T) {
	var given, want []int32
	for _, c := range edges {
		given, want = append(given, c.letter), append(want, c.fold)
		if l := fold.Fold(c.letter); !slices.Equal(l, []int32{c.fold}) {
			t.Errorf("Fold(%x) = %x", c.letter, l)
		}
	}
	l := fold.Fold(given...)
	if !slices.Equal(l, want) || !slices.Equal(fold.Fold(l...), l) {
		t.Errorf("Fold of all is %x", l)
	}
	for _, l := range [][]int32{fold.Fold(), fold.Fold(nil...), fold.Fold([]int32{}...)} {
		if len(l) != 0 {
			t.Errorf("Fold of nothing is %x", l)
		}
	}
}

// 7.1
func TestTextIsFolded(t *testing.T) {
	for _, c := range []struct {
		text string
		want []int32
	}{
		{"", nil},
		{"AbcAB", letters("abcab")},
		{"\xc3\x89t\xc3\xa9", []int32{0xe9, 't', 0xe9}},
		{"\u03a3\u03c2\u03c3", []int32{0x3c3, 0x3c3, 0x3c3}},
		{"\u1e9e\u212b\u0416\u0130", []int32{0xdf, 0xe5, 0x436, 0x130}},
		{"\U0001f600A\U0010ffff", []int32{0x1f600, 'a', 0x10ffff}},
		{"A\xffB\xe2\x82C", []int32{'a', bad, 'b', bad, bad, 'c'}},
		{"\xed\xa0\x80\xc9", []int32{bad, bad, bad, bad}},
		{"\xef\xbf\xbdA\x00", []int32{bad, 'a', 0}},
	} {
		if l := fold.Text(c.text); !slices.Equal(l, c.want) {
			t.Errorf("Text(%q) = %x, not %x", c.text, l, c.want)
		}
	}
}

// 7.2
func TestPartsRiseEachOnce(t *testing.T) {
	for _, c := range []struct {
		list string
		want []uint64
	}{
		{"", nil},
		{"a", nil},
		{"ab", nil},
		{"abc", partsOf("abc")},
		{"cba", partsOf("cba")},
		{"abcab", partsOf("abc", "bca", "cab")},
		{"cabca", partsOf("abc", "bca", "cab")},
		{"abcabc", partsOf("abc", "bca", "cab")},
		{"aaaaaa", partsOf("aaa")},
		{"abababab", partsOf("aba", "bab")},
		{"zyxw", partsOf("yxw", "zyx")},
		{"aabaaab", partsOf("aaa", "aab", "aba", "baa")},
		{"ABCabc", partsOf("ABC", "BCa", "Cab", "abc")},
	} {
		if l := fold.Parts(letters(c.list)); !slices.Equal(l, c.want) {
			t.Errorf("Parts(%s) = %x, not %x", c.list, l, c.want)
		}
	}
	if l := fold.Parts([]int32{}); len(l) != 0 {
		t.Errorf("Parts of nothing are %x", l)
	}
}

// 7.2
func TestPartsAreNumbers(t *testing.T) {
	for _, c := range []struct {
		list []int32
		want []uint64
	}{
		{[]int32{0, 0, 0}, []uint64{0}},
		{[]int32{0, 0, 1}, []uint64{1}},
		{[]int32{0, 1, 0}, []uint64{1 << 21}},
		{[]int32{1, 0, 0}, []uint64{1 << 42}},
		{[]int32{1, 2, 3}, []uint64{0x40000400003}},
		{[]int32{'a', 'b', 'c'}, []uint64{0x184000c400063}},
		{[]int32{0x10ffff, 0x10ffff, 0x10ffff}, []uint64{0x43fffe1ffff0ffff}},
		{[]int32{1, 0x10ffff, 0x10ffff, 0}, []uint64{1<<42 | 0x10ffff<<21 | 0x10ffff, 0x10ffff<<42 | 0x10ffff<<21}},
		{[]int32{2, 0, 0, 1}, []uint64{1, 2 << 42}},
		{[]int32{0xd7ff, 0xe000, bad}, []uint64{0xd7ff<<42 | 0xe000<<21 | bad}},
	} {
		if l := fold.Parts(c.list); !slices.Equal(l, c.want) {
			t.Errorf("Parts(%x) = %x, not %x", c.list, l, c.want)
		}
	}
}

// 7.2
func TestWhatIsNoLetterIsBadInParts(t *testing.T) {
	for _, n := range noLetters {
		for _, c := range []struct {
			list []int32
			want []uint64
		}{
			{[]int32{n}, nil},
			{[]int32{n, n}, nil},
			{[]int32{n, 'a', 'b'}, []uint64{part(bad, 'a', 'b')}},
			{[]int32{'a', n, 'b'}, []uint64{part('a', bad, 'b')}},
			{[]int32{'a', 'b', n}, []uint64{part('a', 'b', bad)}},
			{[]int32{n, bad, n, bad}, []uint64{part(bad, bad, bad)}},
		} {
			given := slices.Clone(c.list)
			if l := fold.Parts(given); !slices.Equal(l, c.want) || !slices.Equal(given, c.list) {
				t.Errorf("Parts(%x) = %x, not %x", c.list, l, c.want)
			}
		}
	}
}

// 7.2
func TestPartsAreAllThatThereAre(t *testing.T) {
	r := rand.New(rand.NewSource(2))
	for range 5000 {
		l := random(r, 30, 1+r.Intn(5))
		if len(l) > 0 && r.Intn(4) == 0 {
			l[r.Intn(len(l))] = int32(r.Uint32())
		}
		once := map[uint64]int{}
		for i := 0; i+2 < len(l); i++ {
			p := uint64(0)
			for _, n := range l[i : i+3] {
				if n < 0 || n > 0x10ffff || n >= 0xd800 && n <= 0xdfff {
					n = bad
				}
				p = p*(1<<21) + uint64(n)
			}
			once[p]++
		}
		parts := fold.Parts(l)
		for i, p := range parts {
			if once[p] == 0 || i > 0 && parts[i-1] >= p {
				t.Fatalf("Parts(%x) = %x", l, parts)
			}
		}
		if len(parts) != len(once) {
			t.Fatalf("Parts(%x) = %x: there are %d", l, parts, len(once))
		}
	}
}

// 7.2
func TestWhatStandsInAList(t *testing.T) {
	for _, c := range []struct {
		list, what string
		many       int
	}{
		{"", "", 1},
		{"a", "", 2},
		{"abcab", "", 6},
		{"", "a", 0},
		{"a", "a", 1},
		{"a", "b", 0},
		{"a", "A", 0},
		{"a", "ab", 0},
		{"ab", "abc", 0},
		{"ab", "aba", 0},
		{"abc", "abc", 1},
		{"abcab", "ab", 2},
		{"abcab", "ca", 1},
		{"abcab", "ba", 0},
		{"abcab", "ac", 0},
		{"abcab", "b", 2},
		{"abcab", "abcab", 1},
		{"abcab", "abcabc", 0},
		{"aaaa", "a", 4},
		{"aaaa", "aa", 3},
		{"aaaa", "aaa", 2},
		{"aaaa", "aaaa", 1},
		{"aaaa", "aaaaa", 0},
		{"ababab", "aba", 2},
		{"ababab", "abab", 2},
		{"abaabaaba", "abaaba", 2},
		{"aabaabaaab", "aabaaab", 1},
		{"abacababacab", "abacab", 2},
		{"aaab", "aab", 1},
		{"aabab", "abab", 1},
		{"abababc", "ababc", 1},
		{"abcabdabcabc", "abcabc", 1},
	} {
		l, what := letters(c.list), letters(c.what)
		if n := fold.Count(l, what); n != c.many {
			t.Errorf("Count(%s, %s) = %d, not %d", c.list, c.what, n, c.many)
		}
		if has := fold.Has(l, what); has != (c.many > 0) {
			t.Errorf("Has(%s, %s) = %v", c.list, c.what, has)
		}
	}
	for _, none := range [][]int32{nil, {}} {
		if !fold.Has(none, none) || fold.Count(none, none) != 1 || fold.Count(letters("ab"), none) != 3 || !fold.Has(letters("ab"), none) {
			t.Error("nothing stands everywhere")
		}
		if fold.Has(none, letters("a")) || fold.Count(none, letters("a")) != 0 {
			t.Error("in nothing there is nothing but nothing")
		}
	}
}

// 7.2
func TestNumbersAreHeldAgainstEachOther(t *testing.T) {
	for _, n := range noLetters {
		l := []int32{'a', n, bad, n}
		if !fold.Has(l, []int32{n, bad}) || fold.Has(l, []int32{bad, bad}) || fold.Count(l, []int32{n}) != 2 || fold.Count(l, []int32{bad}) != 1 {
			t.Errorf("%x in a list is taken for another one", n)
		}
	}
	if fold.Has([]int32{1, 2, 3}, []int32{1 | 1<<21}) || fold.Has([]int32{0x100, 0}, []int32{0, 0}) {
		t.Error("numbers are cut")
	}
}

// 7.2
func TestCountLooksAtEachPlace(t *testing.T) {
	r := rand.New(rand.NewSource(3))
	for range 50000 {
		kinds := 1 + r.Intn(3)
		l, what := random(r, 24, kinds), random(r, 8, kinds)
		want := slowCount(l, what)
		if n := fold.Count(l, what); n != want || fold.Has(l, what) != (want > 0) {
			t.Fatalf("Count(%x, %x) = %d, not %d, and Has is %v", l, what, n, want, fold.Has(l, what))
		}
	}
}

// 7.3
func TestAnswersAreNewMemory(t *testing.T) {
	given := letters("AbcAbc")
	kept, what := slices.Clone(given), letters("cA")
	one, two := fold.Fold(given...), fold.Fold(given...)
	first, second := fold.Parts(given), fold.Parts(given)
	if !fold.Has(given, what) || fold.Count(given, what) != 1 {
		t.Fatal("it is not found")
	}
	if !slices.Equal(given, kept) || !slices.Equal(what, letters("cA")) {
		t.Error("what is handed in is changed")
	}
	one[0], first[0] = 77, 77
	if two[0] != 'a' || second[0] == 77 || !slices.Equal(given, kept) {
		t.Error("answers share their memory")
	}
	one = append(one[:1], 78)
	if !slices.Equal(given, kept) || two[1] != 'b' || len(one) != 2 {
		t.Error("what is put behind an answer is in another's memory")
	}
	same := letters("abc") // each one is its own fold
	if l := fold.Fold(same...); &l[0] == &same[0] {
		t.Error("what is folded is what was handed in")
	}
	x, y := fold.Text("ab"), fold.Text("ab")
	if x[0] = 77; y[0] != 'a' {
		t.Error("texts share their memory")
	}
}

// 7.3
func TestWhatIsBehindAListStays(t *testing.T) {
	all := letters("ABCDEF")
	l := all[:3]
	fold.Fold(l...)
	fold.Parts(l)
	fold.Has(l, l[:2])
	fold.Count(l, l[:2])
	if !slices.Equal(all, letters("ABCDEF")) {
		t.Errorf("the list is %x", all)
	}
}

// 7.4
func TestAFoldsFoldIsItself(t *testing.T) {
	r := rand.New(rand.NewSource(4))
	for range 5000 {
		l := make([]int32, r.Intn(20))
		for i := range l {
			l[i] = int32(r.Uint32() >> r.Intn(32))
		}
		one := fold.Fold(l...)
		if two := fold.Fold(one...); len(one) != len(l) || !slices.Equal(one, two) {
			t.Fatalf("%x is folded to %x, and that to %x", l, one, two)
		}
	}
}

// 7.5
func TestWhatStandsInAListHasItsPartsThere(t *testing.T) {
	r := rand.New(rand.NewSource(5))
	for range 5000 {
		l := random(r, 30, 1+r.Intn(6))
		from := r.Intn(len(l) + 1)
		what := l[from : from+r.Intn(len(l)-from+1)]
		if !fold.Has(l, what) {
			t.Fatalf("%x is not in %x", what, l)
		}
		parts := fold.Parts(l)
		for _, p := range fold.Parts(what) {
			if !slices.Contains(parts, p) {
				t.Fatalf("%x is in %x, and its part %x is not", what, l, p)
			}
		}
	}
}

// P1, P3, P4
func TestAnyListIsAnswered(t *testing.T) {
	ahead := runtime.NumGoroutine()
	r := rand.New(rand.NewSource(6))
	for range 20000 {
		l := make([]int32, r.Intn(12))
		for i := range l {
			l[i] = int32(r.Uint32()) >> r.Intn(32)
		}
		what := make([]int32, r.Intn(4))
		for i := range what {
			what[i] = int32(r.Uint32()) >> r.Intn(32)
		}
		if n := fold.Count(l, what); n != fold.Count(l, what) || n != slowCount(l, what) || fold.Has(l, what) != (n > 0) {
			t.Fatalf("Count(%x, %x) = %d", l, what, n)
		}
		if !slices.Equal(fold.Parts(l), fold.Parts(l)) {
			t.Fatalf("%x is answered twice, and not alike", l)
		}
		fold.One(int32(r.Uint32()))
	}
	for range 5000 {
		b := make([]byte, r.Intn(12))
		r.Read(b)
		l := fold.Text(string(b))
		if len(l) > len(b) || !slices.Equal(l, fold.Text(string(b))) {
			t.Fatalf("Text(%q) = %x", b, l)
		}
	}
	if behind := runtime.NumGoroutine(); behind > ahead { // fewer, if that of an earlier test was just ending
		t.Errorf("%d goroutines ahead, %d behind", ahead, behind)
	}
}

// P1: what repeats is gone through once, however long it is.
func TestLongListsAreAnswered(t *testing.T) {
	const long = 1 << 21
	l := fold.Text(strings.Repeat("A", long))
	half := l[:long/2]
	if n := fold.Count(l, half); n != long/2+1 {
		t.Errorf("half of it is there %d times", n)
	}
	for _, what := range [][]int32{append(slices.Clone(half), 'b'), append([]int32{'b'}, half...)} {
		if fold.Has(l, what) || fold.Count(l, what) != 0 {
			t.Error("what is not there is found")
		}
	}
	if p := fold.Parts(l); !slices.Equal(p, partsOf("aaa")) {
		t.Errorf("there are %d parts", len(p))
	}
	pair := fold.Text(strings.Repeat("Ab", long/2))
	what := append(slices.Clone(pair[:long/2]), 'c')
	if fold.Has(pair, what) || fold.Count(pair, what[:long/2]) != long/4+1 {
		t.Error("what repeats in twos is not found as often as it is there")
	}
}
