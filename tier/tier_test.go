package tier_test

import (
	"math"
	"math/rand"
	"runtime"
	"slices"
	"strings"
	"testing"
	"unsafe"

	"missive/api"
	"missive/mail"
	"missive/rec"
	"missive/seg"
	"missive/tier"
)

// The signatures that the chapter lists.
var (
	_ func(int, int) (int, api.Errno)                    = tier.Tier
	_ func([]int, int) ([]int, api.Errno)                = tier.Pick
	_ func([]int, int) ([]int, int, api.Errno)           = tier.Settle
	_ func(int, int) (int, api.Errno)                    = tier.Most
	_ func([]uint32, ...string) (string, int, api.Errno) = tier.Merge
)

// noFans are numbers that are no fans.
var noFans = []int{math.MinInt, -2, -1, 0, 1, api.MinFan - 1, api.MaxFan + 1, math.MaxInt}

// noSizes are numbers that are no sizes of segments.
var noSizes = []int{math.MinInt, -1, 0, api.MaxItems + 1, math.MaxInt}

// times tells a size so many times.
func times(many, size int) []int {
	return slices.Repeat([]int{size}, many)
}

// plainTier counts the fan's powers that are not above the size.
func plainTier(size, fan int) int {
	tier := 0
	for power := 1; power <= size/fan; power *= fan {
		tier++
	}
	return tier
}

// plainPick goes through the tiers from the lowest one on.
func plainPick(sizes []int, fan int) []int {
	for t := range 64 {
		var places []int
		for place, size := range sizes {
			if plainTier(size, fan) == t {
				places = append(places, place)
			}
		}
		if len(places) >= fan {
			return places[:fan]
		}
	}
	return nil
}

// plainSettle makes a new list at each step.
func plainSettle(sizes []int, fan int) ([]int, int) {
	steps := 0
	for {
		picked := plainPick(sizes, fan)
		if picked == nil {
			return sizes, steps
		}
		var left []int
		for place, size := range sizes {
			switch {
			case place == picked[0]:
				left = append(left, 0)
				for _, p := range picked {
					left[place] += sizes[p]
				}
			case !slices.Contains(picked, place):
				left = append(left, size)
			}
		}
		sizes = left
		steps++
	}
}

// sumOf tells that of sizes.
func sumOf(l []int) int {
	sum := 0
	for _, n := range l {
		sum += n
	}
	return sum
}

// 17.1
func TestTier(t *testing.T) {
	for _, c := range []struct{ size, fan, tier int }{
		{9, 2, 3}, {1, 2, 0}, {2, 2, 1}, {3, 2, 1}, {4, 2, 2}, {7, 2, 2}, {8, 2, 3},
		{1, 3, 0}, {2, 3, 0}, {3, 3, 1}, {8, 3, 1}, {9, 3, 2}, {26, 3, 2}, {27, 3, 3},
		{1, 16, 0}, {15, 16, 0}, {16, 16, 1}, {255, 16, 1}, {256, 16, 2},
		{api.MaxItems, 2, 12}, {api.MaxItems - 1, 2, 11}, {api.MaxItems + 1, 2, 12}, {api.MaxItems, 16, 3}, {api.MaxItems - 1, 16, 2},
		{0, 2, 0}, {-1, 2, 0}, {-2, 2, 0}, {-9, 3, 0}, {0, 16, 0}, {-16, 16, 0}, {math.MinInt, 2, 0}, {math.MinInt, 16, 0},
		{math.MaxInt, 2, 62}, {math.MaxInt, 16, 15}, {math.MaxInt, 15, 16},
	} {
		if tier, errno := tier.Tier(c.size, c.fan); tier != c.tier || errno != api.OK {
			t.Errorf("Tier(%d, %d) = %d, %d, not %d", c.size, c.fan, tier, errno, c.tier)
		}
	}
}

// 17.1
func TestTiersOfAllFans(t *testing.T) {
	for fan := api.MinFan; fan <= api.MaxFan; fan++ {
		for size := -3; size <= 5000; size++ {
			if got, errno := tier.Tier(size, fan); got != plainTier(size, fan) || errno != api.OK {
				t.Fatalf("Tier(%d, %d) = %d, %d", size, fan, got, errno)
			}
		}
		least := []int{fan - 1, fan, fan * fan, fan*fan - 1}
		for i, want := range []int{0, 1, 2, 1} {
			if got, _ := tier.Tier(least[i], fan); got != want {
				t.Errorf("Tier(%d, %d) = %d, not %d", least[i], fan, got, want)
			}
		}
	}
}

// 17.1, P2
func TestFansThatAreNone(t *testing.T) {
	for _, fan := range noFans {
		for _, n := range []int{math.MinInt, -1, 0, 1, 9, math.MaxInt} {
			if got, errno := tier.Tier(n, fan); got != 0 || errno != api.ErrRange {
				t.Errorf("Tier(%d, %d) = %d, %d, not ErrRange alone", n, fan, got, errno)
			}
			if got, errno := tier.Most(n, fan); got != 0 || errno != api.ErrRange {
				t.Errorf("Most(%d, %d) = %d, %d, not ErrRange alone", n, fan, got, errno)
			}
		}
		for _, sizes := range [][]int{nil, {1}, {1, 1, 1}, {0}, times(api.MaxSegs, 1), times(api.MaxSegs+1, 1)} {
			refused(t, sizes, fan, api.ErrRange)
		}
	}
}

// refused asks Pick and Settle, that have the same errors.
func refused(t *testing.T, sizes []int, fan int, want api.Errno) {
	t.Helper()
	if picked, errno := tier.Pick(sizes, fan); len(picked) != 0 || errno != want {
		t.Errorf("Pick of %d sizes, fan %d: %d, %d, not %d alone", len(sizes), fan, picked, errno, want)
	}
	if left, steps, errno := tier.Settle(sizes, fan); len(left) != 0 || steps != 0 || errno != want {
		t.Errorf("Settle of %d sizes, fan %d: %d, %d, %d, not %d alone", len(sizes), fan, left, steps, errno, want)
	}
}

// 17.1, P2
func TestSizesThatAreNone(t *testing.T) {
	for _, fan := range []int{api.MinFan, 3, api.MaxFan} {
		for _, size := range noSizes {
			refused(t, []int{size}, fan, api.ErrRange)
			refused(t, []int{size, 1, 1}, fan, api.ErrRange)
			refused(t, []int{1, 1, size}, fan, api.ErrRange)
			refused(t, append(times(api.MaxSegs, 1), size), fan, api.ErrRange)
			refused(t, append([]int{size}, times(api.MaxSegs+8, 1)...), fan, api.ErrRange)
		}
		refused(t, times(api.MaxSegs+1, 1), fan, api.ErrLong)
		refused(t, times(api.MaxSegs+1, api.MaxItems), fan, api.ErrLong)
		refused(t, times(4*api.MaxSegs, 7), fan, api.ErrLong)
	}
}

// 17.1
func TestPick(t *testing.T) {
	sixteen := make([]int, 16)
	for i := range sixteen {
		sixteen[i] = i
	}
	for _, c := range []struct {
		sizes  []int
		fan    int
		picked []int
	}{
		{nil, 2, nil},
		{[]int{}, 16, nil},
		{[]int{1}, 2, nil},
		{[]int{1, 1}, 2, []int{0, 1}},
		{[]int{1, 1}, 3, nil},
		{[]int{1, 1, 1, 2}, 2, []int{0, 1}},
		{[]int{2, 1, 1, 1}, 2, []int{1, 2}},
		{[]int{1, 2, 4, 8, api.MaxItems}, 2, nil},
		{[]int{1, 2, 4, 8, api.MaxItems, api.MaxItems}, 2, []int{4, 5}},
		{[]int{4, 4, 1, 2, 1}, 2, []int{2, 4}},
		{[]int{4, 5, 2, 3}, 2, []int{2, 3}},
		{[]int{9, 9, 9, 1, 3, 2, 4, 1}, 3, []int{3, 5, 7}},
		{[]int{9, 9, 9, 1, 3, 2, 4, 8}, 3, []int{4, 6, 7}},
		{[]int{9, 26, 27, 1, 3, 2, 4, 9}, 3, []int{0, 1, 7}},
		{[]int{2, 3}, 2, []int{0, 1}},
		{[]int{3, 2}, 2, []int{0, 1}},
		{[]int{2, 3}, 3, nil},
		{times(15, 1), 16, nil},
		{times(16, 1), 16, sixteen},
		{times(api.MaxSegs, api.MaxItems), 16, sixteen},
		{times(api.MaxSegs, 1), 2, []int{0, 1}},
		{append(times(15, 15), 16), 16, nil},
		{append(times(15, 15), 1), 16, sixteen},
		{[]int{5, 1, 5}, 2, []int{0, 2}},
	} {
		picked, errno := tier.Pick(c.sizes, c.fan)
		if !slices.Equal(picked, c.picked) || errno != api.OK {
			t.Errorf("Pick(%d, %d) = %d, %d, not %d", c.sizes, c.fan, picked, errno, c.picked)
		}
	}
}

// 17.1
func TestSettle(t *testing.T) {
	for _, c := range []struct {
		sizes []int
		fan   int
		left  []int
		steps int
	}{
		{nil, 2, nil, 0},
		{[]int{1}, 2, []int{1}, 0},
		{[]int{8, 1, 4, 2}, 2, []int{8, 1, 4, 2}, 0},
		{[]int{1, 1, 1, 2}, 2, []int{4, 1}, 2},
		{[]int{1, 1}, 2, []int{2}, 1},
		{[]int{8, 1, 4, 1}, 2, []int{8, 2, 4}, 1},
		{[]int{1, 1}, 3, []int{1, 1}, 0},
		{[]int{5, 1, 7, 2, 9, 2, 1}, 3, []int{17, 9, 1}, 2},
		{times(8, 1), 2, []int{8}, 7},
		{times(7, 1), 2, []int{4, 2, 1}, 4},
		{times(15, 1), 16, times(15, 1), 0},
		{times(17, 1), 16, []int{16, 1}, 1},
		{times(api.MaxSegs, 1), 2, []int{api.MaxSegs}, api.MaxSegs - 1},
		{times(api.MaxSegs, api.MaxItems), 2, []int{api.MaxSegs * api.MaxItems}, api.MaxSegs - 1},
		{times(api.MaxSegs, api.MaxItems), 16, []int{api.MaxSegs * api.MaxItems}, 17},
		{[]int{api.MaxItems, api.MaxItems}, 2, []int{2 * api.MaxItems}, 1},
		{[]int{api.MaxItems, api.MaxItems - 1, 1}, 2, []int{api.MaxItems, api.MaxItems - 1, 1}, 0},
	} {
		left, steps, errno := tier.Settle(c.sizes, c.fan)
		if !slices.Equal(left, c.left) || steps != c.steps || errno != api.OK {
			t.Errorf("Settle(%d, %d) = %d, %d, %d, not %d, %d", c.sizes, c.fan, left, steps, errno, c.left, c.steps)
		}
	}
}

// 17.1, P2
func TestMost(t *testing.T) {
	for _, c := range []struct{ total, fan, most int }{
		{5, 2, 7}, {0, 2, 3}, {1, 2, 3}, {2, 2, 5}, {4, 2, 7}, {8, 3, 7}, {9, 3, 10},
		{0, 16, 17}, {15, 16, 17}, {16, 16, 33}, {api.MaxItems, 2, 27}, {api.MaxItems + 1, 16, 65},
		{math.MaxInt, 2, 127}, {math.MaxInt, 16, 257},
	} {
		if most, errno := tier.Most(c.total, c.fan); most != c.most || errno != api.OK {
			t.Errorf("Most(%d, %d) = %d, %d, not %d", c.total, c.fan, most, errno, c.most)
		}
	}
	for _, total := range []int{-1, -2, math.MinInt} {
		for _, fan := range []int{api.MinFan, 3, api.MaxFan} {
			if most, errno := tier.Most(total, fan); most != 0 || errno != api.ErrRange {
				t.Errorf("Most(%d, %d) = %d, %d, not ErrRange alone", total, fan, most, errno)
			}
		}
	}
}

// randomSizes tells few, or many, that are small more often than great.
func randomSizes(r *rand.Rand) []int {
	l := make([]int, r.Intn([]int{4, 12, 40, api.MaxSegs + 1}[r.Intn(4)]))
	most := 1 << r.Intn(13)
	for i := range l {
		l[i] = 1 + r.Intn(most)
	}
	return l
}

// 17.1, 17.4
func TestSettledThereAreFew(t *testing.T) {
	r := rand.New(rand.NewSource(1))
	kinds := map[int]int{}
	for range 3000 {
		sizes, fan := randomSizes(r), api.MinFan+r.Intn(api.MaxFan-api.MinFan+1)
		given := slices.Clone(sizes)
		picked, errno := tier.Pick(sizes, fan)
		if want := plainPick(sizes, fan); !slices.Equal(picked, want) || errno != api.OK {
			t.Fatalf("Pick(%d, %d) = %d, %d, not %d", sizes, fan, picked, errno, want)
		}
		left, steps, errno := tier.Settle(sizes, fan)
		wantLeft, wantSteps := plainSettle(sizes, fan)
		if !slices.Equal(left, wantLeft) || steps != wantSteps || errno != api.OK {
			t.Fatalf("Settle(%d, %d) = %d, %d, %d, not %d, %d", sizes, fan, left, steps, errno, wantLeft, wantSteps)
		}
		if !slices.Equal(sizes, given) {
			t.Fatalf("%d was handed in, and is %d", given, sizes)
		}
		most, errno := tier.Most(sumOf(sizes), fan)
		if sumOf(left) != sumOf(sizes) || len(left) > most || errno != api.OK {
			t.Fatalf("Settle(%d, %d) = %d: of %d, and there may be %d", sizes, fan, left, sumOf(left), most)
		}
		kinds[min(steps, 2)]++
	}
	if kinds[0] < 100 || kinds[1] < 100 || kinds[2] < 100 {
		t.Errorf("steps were none, one and more %v times", kinds)
	}
}

// 17.3
func TestNumbersAreNewMemory(t *testing.T) {
	room := append(make([]int, 0, 8), 1, 1, 1, 2, 77)
	sizes := room[:4]
	for _, fan := range []int{2, 16} {
		left, _, _ := tier.Settle(sizes, fan)
		again, _, _ := tier.Settle(sizes, fan)
		picked, _ := tier.Pick(sizes, fan)
		pickedAgain, _ := tier.Pick(sizes, fan)
		for _, l := range [][]int{left, picked} {
			for i := range l {
				l[i] = 99
			}
			_ = append(l, 98)
		}
		if !slices.Equal(room, []int{1, 1, 1, 2, 77}) {
			t.Errorf("fan %d: what is handed in is %d", fan, room)
		}
		if slices.Contains(again, 99) || slices.Contains(pickedAgain, 99) {
			t.Errorf("fan %d: two answers share memory: %d, %d", fan, again, pickedAgain)
		}
	}
}

// list is for short writing.
func list(l ...string) []string {
	return l
}

// body makes an item of a number and texts of its body.
func body(uid uint32, texts ...string) api.Item {
	return api.Item{Uid: uid, Doc: api.Doc{Body: texts}}
}

// bodies makes an item of each number, that has a text of its own.
func bodies(uids ...uint32) []api.Item {
	var l []api.Item
	for _, uid := range uids {
		l = append(l, body(uid, "mail "+string(rune('a'+uid%26))+" text"))
	}
	return l
}

// rising tells so many numbers from that one on.
func rising(from uint32, many int) []uint32 {
	l := make([]uint32, many)
	for i := range l {
		l[i] = from + uint32(i)
	}
	return l
}

// full is an item that has something of everything.
func full(uid uint32) api.Item {
	return api.Item{Uid: uid, Inner: -2, Doc: api.Doc{Size: 64, Day: 9531, Dated: true, Names: list("subject", "", "x"), Values: list("\u00e9t\u00e9", "no name", ""), Body: list("hello world", "", "\xff\x00", "ab")}}
}

// same takes nil and empty lists as alike.
func same(a, b api.Item) bool {
	c, d := a.Doc, b.Doc
	return a.Uid == b.Uid && a.Inner == b.Inner && c.Size == d.Size && c.Day == d.Day && c.Dated == d.Dated && slices.Equal(c.Names, d.Names) && slices.Equal(c.Values, d.Values) && slices.Equal(c.Body, d.Body)
}

// build tells a segment of items that are right.
func build(t *testing.T, l ...api.Item) string {
	t.Helper()
	s, errno := seg.Build(l...)
	if errno != api.OK {
		t.Fatalf("Build of %d items: %d", len(l), errno)
	}
	return s
}

// uidsOf tells the numbers of items.
func uidsOf(l []api.Item) []uint32 {
	var uids []uint32
	for _, x := range l {
		uids = append(uids, x.Uid)
	}
	return uids
}

// merged sees that these segments are merged to just these items.
func merged(t *testing.T, what string, want []api.Item, dead []uint32, segments ...string) {
	t.Helper()
	s, many, errno := tier.Merge(dead, segments...)
	if errno != api.OK || many != len(want) {
		t.Errorf("%s: Merge tells %d items, %d, not %d", what, many, errno, len(want))
		return
	}
	l, errno := seg.Open(s)
	if !slices.EqualFunc(l, want, same) || errno != api.OK || s != build(t, want...) {
		t.Errorf("%s: what is merged has %d, %d, not %d", what, uidsOf(l), errno, uidsOf(want))
	}
}

// unmerged sees that Merge tells that error alone.
func unmerged(t *testing.T, what string, want api.Errno, dead []uint32, segments ...string) {
	t.Helper()
	if s, many, errno := tier.Merge(dead, segments...); s != "" || many != 0 || errno != want {
		t.Errorf("%s: Merge tells %d bytes, %d, %d, not %d alone", what, len(s), many, errno, want)
	}
}

// 17.2, 17.5
func TestMerge(t *testing.T) {
	none := build(t)
	odd := []api.Item{body(1, "one"), full(5), body(9)}
	even := []api.Item{{Uid: 2, Inner: 7, Doc: mail.Read("Subject: a\nDate: 5 Feb 96\n\nabc")}, body(6, "six", "six"), body(api.MaxUid, "one")}
	a, b := build(t, odd...), build(t, even...)
	both := []api.Item{odd[0], even[0], odd[1], even[1], odd[2], even[2]}
	merged(t, "no segment", nil, nil)
	merged(t, "no segment, some dead", nil, []uint32{1, 2})
	merged(t, "a segment of nothing", nil, nil, none)
	merged(t, "a segment of nothing twice", nil, []uint32{3}, none, none)
	merged(t, "one segment", odd, nil, a)
	merged(t, "one beside nothing", odd, nil, none, a, none)
	merged(t, "two", both, nil, a, b)
	merged(t, "two, the other one first", both, nil, b, a)
	merged(t, "one behind the other", bodies(1, 2, 3, 4), nil, build(t, bodies(1, 2)...), build(t, bodies(3, 4)...))
	merged(t, "one ahead of the other", bodies(1, 2, 3, 4), nil, build(t, bodies(3, 4)...), build(t, bodies(1, 2)...))
	merged(t, "three", bodies(1, 2, 3, 4, 5), nil, build(t, bodies(4)...), build(t, bodies(1, 5)...), build(t, bodies(2, 3)...))
	merged(t, "dead that rise", []api.Item{odd[0], even[0], even[1], even[2]}, []uint32{5, 9}, a, b)
	merged(t, "dead that fall", []api.Item{odd[0], even[0], even[1], even[2]}, []uint32{9, 5}, a, b)
	merged(t, "dead in any order", []api.Item{odd[1]}, []uint32{9, api.MaxUid, 1, 6, 2}, a, b)
	merged(t, "dead twice", []api.Item{odd[0], even[0], even[1], even[2]}, []uint32{9, 5, 5, 9, 9}, a, b)
	merged(t, "dead that no item has", both, []uint32{0, 3, 4, 7, api.MaxUid - 1}, a, b)
	merged(t, "some dead that no item has", both[1:], []uint32{7, 1, 3}, a, b)
	merged(t, "all dead", nil, []uint32{1, 2, 5, 6, 9, api.MaxUid}, a, b)
	merged(t, "all dead of one", even, []uint32{9, 5, 1}, a, b)
	merged(t, "more dead than items", odd[:1], rising(2, api.MaxList+5), a)
}

// 17.2
func TestWhatIsMergedIsFound(t *testing.T) {
	a := build(t, body(3, "abcd"), body(8, "xyz"))
	b := build(t, body(2, "abc"), body(5, "bcd"), body(9, "abc"))
	s, _, errno := tier.Merge([]uint32{9}, a, b)
	if errno != api.OK {
		t.Fatalf("Merge: %d", errno)
	}
	for text, want := range map[string][]uint32{"abc": {2, 3}, "bcd": {3, 5}, "xyz": {8}, "yza": nil} {
		part := uint64(text[0])<<42 + uint64(text[1])<<21 + uint64(text[2])
		if uids, errno := seg.Lookup(s, part); !slices.Equal(uids, want) || errno != api.OK {
			t.Errorf("Lookup of %s tells %d, %d, not %d", text, uids, errno, want)
		}
	}
}

// 17.2, P2
func TestSegmentsThatAreNone(t *testing.T) {
	good, other := build(t, bodies(1, 2, 3)...), build(t, bodies(4, 5)...)
	swapped, _ := rec.Join("SEG\x01", "\x00", "\x01\x00\x00\x00\x00\x00\x00", "\x02\x00\x00\x00\x00\x00\x00")
	bad := map[string]string{
		"no bytes":               "",
		"a letter":               "x",
		"a segment cut":          good[:len(good)-1],
		"a segment and a byte":   good + "\x00",
		"two segments":           good + other,
		"a byte turned":          good[:9] + string(good[9]^1) + good[10:],
		"a count that is wrong":  swapped,
		"a segment without mark": good[1:],
	}
	for what, s := range bad {
		unmerged(t, what, api.ErrCode, nil, s)
		unmerged(t, what+", first", api.ErrCode, nil, s, good, other)
		unmerged(t, what+", last", api.ErrCode, []uint32{1}, good, other, s)
		unmerged(t, what+", between", api.ErrCode, nil, good, s, other)
		unmerged(t, what+", behind one twice", api.ErrCode, nil, good, good, s)
		unmerged(t, what+", ahead of one twice", api.ErrCode, nil, s, good, good)
		unmerged(t, what+", and all dead", api.ErrCode, []uint32{1, 2, 3}, good, s)
	}
}

// 17.2, P2
func TestItemsThatAreThereTwice(t *testing.T) {
	a, b := build(t, bodies(1, 4, 9)...), build(t, bodies(2, 3)...)
	unmerged(t, "a segment twice", api.ErrTwice, nil, a, a)
	unmerged(t, "a segment twice, apart", api.ErrTwice, nil, a, b, a)
	unmerged(t, "the first one twice", api.ErrTwice, nil, a, build(t, bodies(1)...))
	unmerged(t, "the last one twice", api.ErrTwice, nil, build(t, bodies(9)...), a)
	unmerged(t, "another text", api.ErrTwice, nil, a, build(t, body(4, "other")))
	unmerged(t, "the greatest number", api.ErrTwice, nil, build(t, body(api.MaxUid)), b, build(t, body(api.MaxUid)))
	unmerged(t, "one that is dead", api.ErrTwice, []uint32{4}, a, build(t, bodies(4)...))
	unmerged(t, "all of them dead", api.ErrTwice, []uint32{1, 4, 9}, a, a)
	many := build(t, bodies(rising(1, api.MaxItems)...)...)
	unmerged(t, "and too many", api.ErrTwice, nil, many, build(t, bodies(api.MaxItems, api.MaxItems+1)...))
	unmerged(t, "many twice", api.ErrTwice, nil, many, many)
}

// 17.2, P2
func TestTooManyItems(t *testing.T) {
	half, other := bodies(rising(1, api.MaxItems/2)...), bodies(rising(api.MaxItems/2+1, api.MaxItems/2)...)
	a, b := build(t, half...), build(t, other...)
	one := build(t, bodies(api.MaxItems+1)...)
	all := slices.Concat(half, other)
	merged(t, "MaxItems items", all, nil, b, a)
	unmerged(t, "one more", api.ErrLong, nil, a, b, one)
	unmerged(t, "one more, and one dead that no item has", api.ErrLong, []uint32{api.MaxItems + 2}, a, b, one)
	merged(t, "one more, and one dead", slices.Concat(all[1:], bodies(api.MaxItems+1)), []uint32{1}, a, b, one)
	merged(t, "one more, that is dead", all, []uint32{api.MaxItems + 1}, a, b, one)
	whole := build(t, all...)
	merged(t, "MaxItems items in one", all, nil, whole)
	unmerged(t, "MaxItems items and one more", api.ErrLong, nil, one, whole)
}

// letters tells a text of so many parts, none of which is there twice.
func letters(from rune, parts int) string {
	var b strings.Builder
	for i := range parts + 2 {
		b.WriteRune(from + rune(i))
	}
	return b.String()
}

// 17.2, P2: what seg.Build refuses for its table
func TestTooGreatATable(t *testing.T) {
	first, second, third := body(1, letters(0x10000, api.MaxEntries/2)), body(2, letters(0x20000, api.MaxEntries/2)), body(3, "abc")
	a, b, c := build(t, first), build(t, second), build(t, third)
	merged(t, "MaxEntries parts", []api.Item{first, second}, nil, a, b)
	unmerged(t, "one part more", api.ErrLong, nil, a, b, c)
	merged(t, "one part more, that is dead", []api.Item{first, second}, []uint32{3}, a, b, c)
	merged(t, "one part more, and others dead", []api.Item{first, third}, []uint32{2}, a, b, c)
}

// shares tells whether two texts have a byte of memory together.
func shares(a, b string) bool {
	if a == "" || b == "" {
		return false
	}
	x, y := uintptr(unsafe.Pointer(unsafe.StringData(a))), uintptr(unsafe.Pointer(unsafe.StringData(b)))
	return x < y+uintptr(len(b)) && y < x+uintptr(len(a))
}

// 17.3
func TestMergedIsNewMemory(t *testing.T) {
	dead := append(make([]uint32, 0, 8), 9, 2, 9, 5, 77)
	segments := list(build(t, bodies(1, 4, 9)...), build(t, bodies(2, 3)...), build(t))
	for _, l := range [][]string{segments[:1], segments[2:], segments} {
		texts := slices.Clone(l)
		given := slices.Clone(l)
		for range 2 {
			s, _, errno := tier.Merge(dead[:4], l...)
			if errno != api.OK {
				t.Fatalf("Merge: %d", errno)
			}
			texts = append(texts, s)
		}
		for i := range texts {
			for j := range i {
				if shares(texts[i], texts[j]) {
					t.Errorf("of %d segments texts %d and %d share their memory", len(l), j, i)
				}
			}
		}
		if !slices.Equal(l, given) || !slices.Equal(dead, []uint32{9, 2, 9, 5, 77}) {
			t.Errorf("what is handed in is changed: %d", dead)
		}
	}
}

// deal lays items in so many heaps, that may be empty, and may have one twice.
func deal(r *rand.Rand, l []api.Item, heaps int) [][]api.Item {
	dealt := make([][]api.Item, heaps)
	for _, x := range l {
		if heaps == 0 {
			break
		}
		at := r.Intn(heaps)
		dealt[at] = append(dealt[at], x)
		if other := r.Intn(heaps); other != at && r.Intn(60) == 0 {
			dealt[other] = append(dealt[other], x)
		}
	}
	return dealt
}

// plainMerge tells what Merge is to answer of heaps of items, just as the chapter words it.
func plainMerge(dead []uint32, heaps [][]api.Item) ([]api.Item, api.Errno) {
	have := map[uint32]api.Item{}
	for _, heap := range heaps {
		for _, x := range heap {
			if _, twice := have[x.Uid]; twice {
				return nil, api.ErrTwice
			}
			have[x.Uid] = x
		}
	}
	var l []api.Item
	for uid := range uint32(200) {
		if x, has := have[uid]; has && !slices.Contains(dead, uid) {
			l = append(l, x)
		}
	}
	return l, api.OK
}

// 17.2, 17.5, P1, P4
func TestAnySegmentsAreMerged(t *testing.T) {
	ahead := runtime.NumGoroutine()
	r := rand.New(rand.NewSource(2))
	errnos := map[api.Errno]int{}
	for range 1500 {
		var items []api.Item
		for uid := uint32(1); len(items) < r.Intn(30); uid += 1 + uint32(r.Intn(4)) {
			items = append(items, []api.Item{full(uid), bodies(uid)[0]}[r.Intn(2)])
		}
		heaps := deal(r, items, r.Intn(5))
		var segments []string
		for _, heap := range heaps {
			segments = append(segments, build(t, heap...))
		}
		var dead []uint32
		for range r.Intn(9) {
			dead = append(dead, uint32(r.Intn(40)))
		}
		want, errno := plainMerge(dead, heaps)
		if len(segments) > 0 && r.Intn(10) == 0 {
			segments[r.Intn(len(segments))] = "SEG"
			want, errno = nil, api.ErrCode
		}
		errnos[errno]++
		if errno == api.OK {
			merged(t, "heaps", want, dead, segments...)
		} else {
			unmerged(t, "heaps", errno, dead, segments...)
		}
	}
	if errnos[api.OK] < 200 || errnos[api.ErrTwice] < 20 || errnos[api.ErrCode] < 20 {
		t.Errorf("the errors were %v", errnos)
	}
	if behind := runtime.NumGoroutine(); behind > ahead { // fewer, if that of an earlier test was just ending
		t.Errorf("%d goroutines ahead, %d behind", ahead, behind)
	}
}

// wantErrno tells what Pick and Settle are to refuse.
func wantErrno(sizes []int, fan int) api.Errno {
	wrong := func(size int) bool { return size < 1 || size > api.MaxItems }
	switch {
	case fan < api.MinFan || fan > api.MaxFan || slices.ContainsFunc(sizes, wrong):
		return api.ErrRange
	case len(sizes) > api.MaxSegs:
		return api.ErrLong
	}
	return api.OK
}

// 17.1, P1, P2
func TestAnyNumbersAreAnswered(t *testing.T) {
	r := rand.New(rand.NewSource(3))
	anyInt := func() int { return int(r.Uint64()) >> r.Intn(64) }
	errnos := map[api.Errno]int{}
	for range 20000 {
		sizes, fan := randomSizes(r), r.Intn(20)
		switch r.Intn(8) {
		case 0:
			fan = anyInt()
		case 1:
			sizes = append(sizes, anyInt())
		case 2:
			sizes = slices.Insert(sizes, 0, times(1+r.Intn(api.MaxSegs), 3)...)
		}
		want := wantErrno(sizes, fan)
		errnos[want]++
		picked, errno := tier.Pick(sizes, fan)
		left, steps, errnoToo := tier.Settle(sizes, fan)
		if errno != want || errnoToo != want {
			t.Fatalf("Pick and Settle of %d, %d: %d and %d, not %d", sizes, fan, errno, errnoToo, want)
		}
		if want != api.OK && len(picked)+len(left)+steps != 0 {
			t.Fatalf("Pick and Settle of %d, %d: %d, %d, %d beside an error", sizes, fan, picked, left, steps)
		}
		size := anyInt()
		if got, errno := tier.Tier(size, fan); (errno == api.OK) != (fan >= 2 && fan <= 16) || errno == api.OK && got != plainTier(size, fan) {
			t.Fatalf("Tier(%d, %d) = %d, %d", size, fan, got, errno)
		}
	}
	for _, errno := range []api.Errno{api.OK, api.ErrRange, api.ErrLong} {
		if errnos[errno] < 200 {
			t.Errorf("the errors were %v", errnos)
		}
	}
}
