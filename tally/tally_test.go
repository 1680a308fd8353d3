package tally_test

import (
	"fmt"
	"math"
	"math/rand"
	"runtime"
	"slices"
	"strconv"
	"strings"
	"testing"
	"unsafe"

	"missive/api"
	"missive/nset"
	"missive/tally"
)

// The signatures that the chapter lists.
var (
	_ func(api.Tally) api.Errno                        = tally.Check
	_ func(api.Want, ...uint32) (api.Tally, api.Errno) = tally.Of
	_ func(api.Tally) (string, api.Errno)              = tally.Write
	_ func(api.Want, string) (api.Tally, api.Errno)    = tally.Parse
	_ func(string) (api.Want, api.Errno)               = tally.Word
)

const greatest = math.MaxUint32

// cases are numbers, what is wanted of them, and what is told of them.
var cases = []struct {
	want    api.Want
	numbers []uint32
	tally   api.Tally
	text    string
}{
	{0, nil, api.Tally{}, ""},
	{0, []uint32{2, 3, 4, 9}, api.Tally{}, ""},
	{api.WantMin, []uint32{2, 3, 4, 9}, api.Tally{Want: 1, Least: 2}, "MIN 2"},
	{api.WantMax, []uint32{2, 3, 4, 9}, api.Tally{Want: 2, Most: 9}, "MAX 9"},
	{api.WantAll, []uint32{2, 3, 4, 9}, api.Tally{Want: 4, All: spans(2, 4, 9, 9)}, "ALL 2:4,9"},
	{api.WantCount, []uint32{2, 3, 4, 9}, api.Tally{Want: 8, Many: 4}, "COUNT 4"},
	{api.WantAny, []uint32{2, 3, 4, 9}, api.Tally{Want: 15, Many: 4, Least: 2, Most: 9, All: spans(2, 4, 9, 9)}, "MIN 2 MAX 9 ALL 2:4,9 COUNT 4"},
	{api.WantMin | api.WantMax, []uint32{7, 10}, api.Tally{Want: 3, Least: 7, Most: 10}, "MIN 7 MAX 10"},
	{api.WantMax | api.WantCount, []uint32{7, 10}, api.Tally{Want: 10, Most: 10, Many: 2}, "MAX 10 COUNT 2"},
	{api.WantMin | api.WantAll, []uint32{7, 10}, api.Tally{Want: 5, Least: 7, All: spans(7, 7, 10, 10)}, "MIN 7 ALL 7,10"},
	{api.WantMin, nil, api.Tally{Want: 1}, ""},
	{api.WantMax, nil, api.Tally{Want: 2}, ""},
	{api.WantAll, nil, api.Tally{Want: 4}, ""},
	{api.WantCount, nil, api.Tally{Want: 8}, "COUNT 0"},
	{api.WantAny, nil, api.Tally{Want: 15}, "COUNT 0"},
	{api.WantAny &^ api.WantCount, nil, api.Tally{Want: 7}, ""},
	{api.WantAny, []uint32{1}, api.Tally{Want: 15, Many: 1, Least: 1, Most: 1, All: spans(1, 1)}, "MIN 1 MAX 1 ALL 1 COUNT 1"},
	{api.WantAny, []uint32{greatest}, api.Tally{Want: 15, Many: 1, Least: greatest, Most: greatest, All: spans(greatest, greatest)}, "MIN 4294967295 MAX 4294967295 ALL 4294967295 COUNT 1"},
	{api.WantAny, []uint32{1, greatest - 1, greatest}, api.Tally{Want: 15, Many: 3, Least: 1, Most: greatest, All: spans(1, 1, greatest-1, greatest)}, "MIN 1 MAX 4294967295 ALL 1,4294967294:4294967295 COUNT 3"},
}

// spans tells some by their ends.
func spans(ends ...uint32) []api.Span {
	var l []api.Span
	for i := 0; i < len(ends); i += 2 {
		l = append(l, api.Span{From: ends[i], To: ends[i+1]})
	}
	return l
}

// apart tells so many numbers that no two of them are in one span.
func apart(many int) []uint32 {
	var l []uint32
	for i := range many {
		l = append(l, uint32(2*i+1))
	}
	return l
}

// upTo tells all numbers from 1 on.
func upTo(many int) []uint32 {
	var l []uint32
	for i := range many {
		l = append(l, uint32(i+1))
	}
	return l
}

// same holds two tallies against each other; nil and empty lists are alike.
func same(a, b api.Tally) bool {
	return a.Want == b.Want && a.Many == b.Many && a.Least == b.Least && a.Most == b.Most && slices.Equal(a.All, b.All)
}

// told makes a tally just as the chapter words it, of numbers that are right.
func told(w api.Want, numbers []uint32) api.Tally {
	t := api.Tally{Want: w}
	if len(numbers) == 0 {
		return t
	}
	if w&1 != 0 {
		t.Least = numbers[0]
	}
	if w&2 != 0 {
		t.Most = numbers[len(numbers)-1]
	}
	if w&4 != 0 {
		t.All, _ = nset.Pack(numbers...)
	}
	if w&8 != 0 {
		t.Many = len(numbers)
	}
	return t
}

// 27.1
func TestOf(t *testing.T) {
	for _, c := range cases {
		if got, errno := tally.Of(c.want, c.numbers...); !same(got, c.tally) || errno != api.OK {
			t.Errorf("Of(%d, %d) = %v, %d", c.want, c.numbers, got, errno)
		}
	}
	numbers := upTo(api.MaxList)
	if got, errno := tally.Of(api.WantAny, numbers...); !same(got, told(api.WantAny, numbers)) || errno != api.OK {
		t.Errorf("Of MaxList numbers: %v, %d", got, errno)
	}
}

// 27.1: MaxSpans is of those alone that All is of.
func TestOfSpans(t *testing.T) {
	most, tooMany := apart(api.MaxSpans), apart(api.MaxSpans+1)
	for w := range api.WantAny + 1 {
		if got, errno := tally.Of(w, most...); !same(got, told(w, most)) || errno != api.OK {
			t.Errorf("Of(%d) of MaxSpans spans: %v, %d", w, got, errno)
		}
		got, errno := tally.Of(w, tooMany...)
		if w&api.WantAll != 0 {
			if errno != api.ErrLong || !same(got, api.Tally{}) {
				t.Errorf("Of(%d) of a span more: %v, %d", w, got, errno)
			}
		} else if !same(got, told(w, tooMany)) || errno != api.OK {
			t.Errorf("Of(%d) of a span more, that is not wanted: %v, %d", w, got, errno)
		}
	}
	dense := append(apart(api.MaxSpans), upTo(5000)[2*api.MaxSpans-1:]...) // numbers more than spans
	if got, errno := tally.Of(api.WantAny, dense...); !same(got, told(api.WantAny, dense)) || errno != api.OK {
		t.Errorf("Of many numbers in MaxSpans spans: %d spans, %d", len(got.All), errno)
	}
}

// 27.1, P2, P3
func TestOfRefuses(t *testing.T) {
	for name, c := range map[string]struct {
		want    api.Want
		numbers []uint32
		errno   api.Errno
	}{
		"a bit that there is not":              {16, []uint32{2}, api.ErrRange},
		"it and others":                        {31, []uint32{2}, api.ErrRange},
		"the greatest bit":                     {128, nil, api.ErrRange},
		"it, and numbers that do not rise":     {16, []uint32{2, 1}, api.ErrRange},
		"0":                                    {15, []uint32{0}, api.ErrRange},
		"0, and nothing wanted":                {0, []uint32{0}, api.ErrRange},
		"0, and then others":                   {1, []uint32{0, 1, 2}, api.ErrRange},
		"0 at the end, that does not rise":     {2, []uint32{1, 0}, api.ErrRange},
		"0 behind what does not rise":          {2, []uint32{2, 1, 0, 5}, api.ErrRange},
		"0 among too many":                     {8, append([]uint32{0}, upTo(api.MaxList)...), api.ErrRange},
		"one twice":                            {15, []uint32{2, 2}, api.ErrOrder},
		"one twice, and nothing wanted":        {0, []uint32{2, 2}, api.ErrOrder},
		"one below the one ahead":              {8, []uint32{1, 5, 4, 9}, api.ErrOrder},
		"too many":                             {8, upTo(api.MaxList + 1), api.ErrLong},
		"too many, and nothing wanted":         {0, upTo(api.MaxList + 1), api.ErrLong},
		"too many, the last one twice":         {8, append(upTo(api.MaxList), api.MaxList), api.ErrOrder},
		"too many spans, the last one twice":   {4, append(apart(api.MaxSpans+1), 2*api.MaxSpans+1), api.ErrOrder},
		"too many spans":                       {4, apart(api.MaxSpans + 1), api.ErrLong},
		"too many spans, all wanted":           {15, apart(api.MaxSpans + 1), api.ErrLong},
		"too many numbers in too many spans":   {15, apart(api.MaxList + 1), api.ErrLong},
		"the greatest one, and 0 behind it":    {15, []uint32{greatest, 0}, api.ErrRange},
		"the greatest one, and itself, behind": {15, []uint32{greatest, greatest}, api.ErrOrder},
	} {
		if got, errno := tally.Of(c.want, c.numbers...); errno != c.errno || !same(got, api.Tally{}) {
			t.Errorf("Of %s: %v, %d, not the error %d alone", name, got, errno, c.errno)
		}
	}
}

// 27.1
func TestCheck(t *testing.T) {
	for _, c := range cases {
		if errno := tally.Check(c.tally); errno != api.OK {
			t.Errorf("Check(%v) = %d", c.tally, errno)
		}
	}
	for name, x := range map[string]api.Tally{
		"empty lists":                           {Want: 15, All: []api.Span{}},
		"MaxSpans spans":                        told(15, apart(api.MaxSpans)),
		"more spans than may be, not wanted":    told(11, apart(api.MaxSpans+1)),
		"MaxList numbers in one span":           told(15, upTo(api.MaxList)),
		"MaxList numbers":                       {Want: 8, Many: api.MaxList},
		"MaxList numbers up to just that one":   {Want: 10, Many: api.MaxList, Most: api.MaxList},
		"MaxList numbers up to the greatest":    {Want: 9, Many: api.MaxList, Least: greatest - api.MaxList + 1},
		"MaxList numbers with both ends":        {Want: 11, Many: api.MaxList, Least: 5, Most: 4 + api.MaxList},
		"two numbers far apart":                 {Want: 11, Many: 2, Least: 1, Most: greatest},
		"one number, told as both ends":         {Want: 11, Many: 1, Least: 9, Most: 9},
		"both ends, and none between":           {Want: 3, Least: 9, Most: 9},
		"the greatest one as the least":         {Want: 9, Many: 1, Least: greatest},
		"all numbers that there may be at once": {Want: 15, Many: api.MaxList, Least: greatest - api.MaxList + 1, Most: greatest, All: spans(greatest-api.MaxList+1, greatest)},
	} {
		if errno := tally.Check(x); errno != api.OK {
			t.Errorf("Check of %s: %d", name, errno)
		}
	}
}

// wrong has tallies that are of no numbers.
var wrong = map[string]api.Tally{
	"a bit that there is not":              {Want: 16},
	"it and others":                        {Want: 31, Many: 1, Least: 1, Most: 1, All: spans(1, 1)},
	"the least, not wanted":                {Want: 14, Many: 1, Least: 1, Most: 1, All: spans(1, 1)},
	"the greatest, not wanted":             {Want: 13, Many: 1, Least: 1, Most: 1, All: spans(1, 1)},
	"all, not wanted":                      {Want: 11, Many: 1, Least: 1, Most: 1, All: spans(1, 1)},
	"how many, not wanted":                 {Want: 7, Many: 1, Least: 1, Most: 1, All: spans(1, 1)},
	"nothing wanted, one there":            {Many: 1},
	"the least alone is wrong":             {Want: 15, Many: 2, Least: 3, Most: 5, All: spans(2, 2, 5, 5)},
	"the greatest alone is wrong":          {Want: 15, Many: 2, Least: 2, Most: 6, All: spans(2, 2, 5, 5)},
	"the count alone is wrong":             {Want: 15, Many: 3, Least: 2, Most: 5, All: spans(2, 2, 5, 5)},
	"all, but no ends":                     {Want: 15, Many: 2, All: spans(2, 2, 5, 5)},
	"all, but no count":                    {Want: 15, Least: 2, Most: 5, All: spans(2, 2, 5, 5)},
	"ends, but not all":                    {Want: 15, Many: 2, Least: 2, Most: 5},
	"a count, but not all":                 {Want: 12, Many: 2},
	"a least one, but not all":             {Want: 5, Least: 2},
	"a greatest one, but not all":          {Want: 6, Most: 2},
	"0 among all":                          {Want: 4, All: spans(0, 0)},
	"a span from 0":                        {Want: 4, All: spans(0, 4)},
	"a span to 0":                          {Want: 4, All: spans(4, 0)},
	"all numbers, from 0 on":               {Want: 4, All: spans(0, greatest)},
	"a span from the greater to the less":  {Want: 4, All: spans(4, 2)},
	"spans that touch":                     {Want: 4, All: spans(2, 3, 4, 5)},
	"spans with a number together":         {Want: 4, All: spans(2, 4, 4, 5)},
	"spans out of order":                   {Want: 4, All: spans(7, 8, 2, 3)},
	"a span twice":                         {Want: 4, All: spans(2, 3, 2, 3)},
	"a span more than may be":              {Want: 4, All: tooManySpans()},
	"a number more than may be in a span":  {Want: 4, All: spans(1, api.MaxList+1)},
	"a number more than may be in two":     {Want: 4, All: spans(1, 1, 3, api.MaxList+2)},
	"all numbers in a span":                {Want: 4, All: spans(1, greatest)},
	"fewer than none":                      {Want: 8, Many: -1},
	"the fewest that can be told":          {Want: 8, Many: math.MinInt},
	"the most that can be told":            {Want: 8, Many: math.MaxInt},
	"a number more than may be":            {Want: 8, Many: api.MaxList + 1},
	"a least one of none":                  {Want: 9, Least: 2},
	"some without a least one":             {Want: 9, Many: 2},
	"a greatest one of none":               {Want: 10, Most: 2},
	"some without a greatest one":          {Want: 10, Many: 2},
	"a least one without a greatest one":   {Want: 3, Least: 2},
	"a greatest one without a least one":   {Want: 3, Most: 2},
	"the least above the greatest":         {Want: 3, Least: 3, Most: 2},
	"two ends of one":                      {Want: 11, Many: 1, Least: 2, Most: 3},
	"two of one end":                       {Want: 11, Many: 2, Least: 3, Most: 3},
	"more than there are between":          {Want: 11, Many: 4, Least: 3, Most: 5},
	"more than there are up to it":         {Want: 10, Many: 6, Most: 5},
	"more than there are from it on":       {Want: 9, Many: 3, Least: greatest - 1},
	"fewer than none, with ends":           {Want: 11, Many: -2, Least: 3, Most: 5},
	"one more than may be, with both ends": {Want: 11, Many: api.MaxList + 1, Least: 1, Most: greatest},
}

// tooManySpans tells one more than a set may have.
func tooManySpans() []api.Span {
	var l []api.Span
	for _, n := range apart(api.MaxSpans + 1) {
		l = append(l, api.Span{From: n, To: n})
	}
	return l
}

// 27.1, 27.2
func TestOfNoNumbers(t *testing.T) {
	for name, x := range wrong {
		if errno := tally.Check(x); errno != api.ErrForm {
			t.Errorf("Check of %s: %d", name, errno)
		}
		if s, errno := tally.Write(x); s != "" || errno != api.ErrForm {
			t.Errorf("Write of %s: %q, %d", name, s, errno)
		}
	}
}

// 27.1: all small tallies are right, just if they are of some small numbers.
func TestCheckAllSmall(t *testing.T) {
	right := map[string]bool{}
	for bits := range 1 << 7 {
		var numbers []uint32
		for n := range uint32(7) {
			if bits&(1<<n) != 0 {
				numbers = append(numbers, n+1)
			}
		}
		for w := range api.WantAny + 1 {
			right[fmt.Sprint(told(w, numbers))] = true
		}
	}
	sets := [][]api.Span{nil}
	for ends := range uint32(16) {
		first := api.Span{From: ends / 4, To: ends % 4}
		sets = append(sets, []api.Span{first})
		for more := range uint32(16) {
			sets = append(sets, []api.Span{first, {From: more / 4, To: more % 4}})
		}
	}
	for w := range api.Want(32) {
		for small := range 5 * 4 * 4 {
			for _, set := range sets {
				x := api.Tally{Want: w, Many: small/16 - 1, Least: uint32(small / 4 % 4), Most: uint32(small % 4), All: set}
				if errno := tally.Check(x); (errno == api.OK) != right[fmt.Sprint(x)] || errno != api.OK && errno != api.ErrForm {
					t.Fatalf("Check(%v) = %d", x, errno)
				}
			}
		}
	}
}

// 27.1
func TestWord(t *testing.T) {
	for s, w := range map[string]api.Want{"MIN": 1, "min": 1, "mIn": 1, "MAX": 2, "Max": 2, "ALL": 4, "aLL": 4, "all": 4, "COUNT": 8, "count": 8, "CounT": 8} {
		if got, errno := tally.Word(s); got != w || errno != api.OK {
			t.Errorf("Word(%q) = %d, %d", s, got, errno)
		}
	}
	for _, s := range []string{"", " ", "MI", "MINI", " MIN", "MIN ", "MAXX", "AL", "ALL\x00", "ANY", "COUNTS", "CO", "MIN MAX", "M\u0131N", "M\u0130N", "ＭＩＮ", "-IN", "\x00IN", "mi\xee"} {
		if got, errno := tally.Word(s); got != 0 || errno != api.ErrCode {
			t.Errorf("Word(%q) = %d, %d", s, got, errno)
		}
	}
}

// 27.2
func TestWriteAndParse(t *testing.T) {
	for _, c := range cases {
		if s, errno := tally.Write(c.tally); s != c.text || errno != api.OK {
			t.Errorf("Write(%v) = %q, %d", c.tally, s, errno)
		}
		if got, errno := tally.Parse(c.want, c.text); !same(got, c.tally) || errno != api.OK {
			t.Errorf("Parse(%d, %q) = %v, %d", c.want, c.text, got, errno)
		}
	}
}

// 27.2: a text is that of its own Want alone.
func TestParseOtherWants(t *testing.T) {
	for _, numbers := range [][]uint32{{2, 3, 4, 9}, {5}} {
		for w := range api.WantAny + 1 {
			s, _ := tally.Write(told(w, numbers))
			for other := range api.WantAny + 1 {
				got, errno := tally.Parse(other, s)
				switch {
				case other == w:
					if !same(got, told(w, numbers)) || errno != api.OK {
						t.Errorf("Parse(%d, %q) = %v, %d", w, s, got, errno)
					}
				case w == 0 && other&api.WantCount == 0:
					if !same(got, api.Tally{Want: other}) || errno != api.OK { // it is that of no numbers
						t.Errorf("Parse(%d, %q) = %v, %d", other, s, got, errno)
					}
				case errno != api.ErrCode || !same(got, api.Tally{}):
					t.Errorf("Parse(%d, %q) = %v, %d", other, s, got, errno)
				}
			}
		}
	}
}

// 27.2, P2
func TestParseRefuses(t *testing.T) {
	for _, s := range []string{"", "MIN 2", "COUNT 0", "nothing"} {
		for _, w := range []api.Want{16, 17, 31, 128, 255} {
			if got, errno := tally.Parse(w, s); errno != api.ErrRange || !same(got, api.Tally{}) {
				t.Errorf("Parse(%d, %q) = %v, %d", w, s, got, errno)
			}
		}
	}
	for _, c := range []struct {
		want api.Want
		text string
	}{
		{15, ""}, {8, ""}, {15, "MIN 2"}, {0, " "}, {1, " "}, {7, "COUNT 0"}, {0, "MIN 2"},
		{15, " MIN 2 MAX 9 ALL 2:4,9 COUNT 4"}, {15, "MIN 2 MAX 9 ALL 2:4,9 COUNT 4 "}, {15, "MIN 2  MAX 9 ALL 2:4,9 COUNT 4"},
		{15, "MIN  2 MAX 9 ALL 2:4,9 COUNT 4"}, {15, "MIN 2 MAX 9 ALL 2:4,9 COUNT  4"}, {15, "MIN 2\tMAX 9 ALL 2:4,9 COUNT 4"},
		{15, "MAX 9 MIN 2 ALL 2:4,9 COUNT 4"}, {15, "MIN 2 MAX 9 COUNT 4 ALL 2:4,9"}, {15, "COUNT 4 MIN 2 MAX 9 ALL 2:4,9"},
		{15, "MIN 02 MAX 9 ALL 2:4,9 COUNT 4"}, {15, "MIN 2 MAX 09 ALL 2:4,9 COUNT 4"}, {15, "MIN 2 MAX 9 ALL 02:4,9 COUNT 4"}, {15, "MIN 2 MAX 9 ALL 2:4,9 COUNT 04"},
		{15, "min 2 MAX 9 ALL 2:4,9 COUNT 4"}, {15, "MIN 2 MAX 9 ALL 2:4,9 Count 4"},
		{15, "MIN 2 MAX 9 ALL 2:4,9 COUNT 5"}, {15, "MIN 3 MAX 9 ALL 2:4,9 COUNT 4"}, {15, "MIN 2 MAX 8 ALL 2:4,9 COUNT 4"},
		{15, "MIN 2 MAX 9 ALL 2:3,4,9 COUNT 4"}, {15, "MIN 2 MAX 9 ALL 9,2:4 COUNT 4"}, {15, "MIN 2 MAX 9 ALL 4:2,9 COUNT 4"}, {15, "MIN 2 MAX 9 ALL 2,3,4,9 COUNT 4"},
		{15, "MIN 2 MAX 9 ALL 2:4,9 COUNT 4 COUNT 4"}, {15, "MIN 2 MIN 2 MAX 9 ALL 2:4,9 COUNT 4"}, {15, "MIN 2 MAX 9 ALL 2:4,9 COUNT 4\r\n"},
		{15, "MIN 2 MAX 9 ALL 2:4,9"}, {15, "MIN 2 MAX 9 COUNT 4"}, {15, "MAX 9 ALL 2:4,9 COUNT 4"}, {15, "MIN 2 ALL 2:4,9 COUNT 4"},
		{15, "MIN 0 MAX 0 COUNT 0"}, {15, "MIN 0 COUNT 0"}, {15, "ALL  COUNT 0"}, {15, "ALL COUNT 0"}, {15, "COUNT 00"}, {15, "COUNT"}, {15, "COUNT "},
		{1, "MIN"}, {1, "MIN "}, {1, "MIN2"}, {1, "MIN 0"}, {1, "MIN -2"}, {1, "MIN +2"}, {1, "MIN 2 "}, {1, "MIN x"}, {1, "MIN 4294967296"}, {1, "MIN 4294967298"},
		{1, "MIN 99999999999999999999"}, {1, "MIN 2x"}, {1, "MIN *"}, {1, "MIN 0x2"}, {1, "MIN 1_0"}, {1, "MIN \u0662"}, {2, "MAX 4294967296"}, {2, "MAX 2.0"},
		{4, "ALL"}, {4, "ALL *"}, {4, "ALL 2:*"}, {4, "ALL 0"}, {4, "ALL 2,"}, {4, "ALL 2 3"}, {4, "ALL 3:3"}, {4, "ALL 1:65537"}, {4, "ALL 1:4294967295"},
		{8, "COUNT -1"}, {8, "COUNT 65537"}, {8, "COUNT 4294967297"}, {8, "COUNT +1"}, {8, "COUNT 1 "}, {8, "count 1"},
		{4, "ALL " + longSet(api.MaxSpans+1)}, {3, "MIN 9 MAX 2"}, {3, "MIN 2"}, {3, "MAX 2"}, {9, "MIN 2 COUNT 0"}, {9, "COUNT 1"}, {10, "MAX 5 COUNT 6"},
	} {
		if got, errno := tally.Parse(c.want, c.text); errno != api.ErrCode || !same(got, api.Tally{}) {
			t.Errorf("Parse(%d, %q) = %v, %d", c.want, c.text, got, errno)
		}
	}
	if got, errno := tally.Parse(4, "ALL "+longSet(api.MaxSpans)); len(got.All) != api.MaxSpans || errno != api.OK {
		t.Errorf("Parse of MaxSpans spans: %d, %d", len(got.All), errno)
	}
}

// longSet is a text of so many spans.
func longSet(many int) string {
	var l []string
	for _, n := range apart(many) {
		l = append(l, strconv.Itoa(int(n)))
	}
	return strings.Join(l, ",")
}

// shares tells whether two texts have memory together.
func shares(a, b string) bool {
	return len(a) > 0 && len(b) > 0 && unsafe.StringData(a) == unsafe.StringData(b)
}

// 27.3
func TestAnswersAreNewMemory(t *testing.T) {
	given := []uint32{2, 3, 4, 9}
	numbers := slices.Clone(given)
	one, _ := tally.Of(15, numbers...)
	two, _ := tally.Of(15, numbers...)
	if !slices.Equal(numbers, given) {
		t.Errorf("what was handed in is changed: %d", numbers)
	}
	numbers[0], numbers[3] = 7, 77
	one.All[0].From = 78
	if !same(two, told(15, given)) {
		t.Errorf("what Of tells shares its memory: %v", two)
	}
	a, _ := tally.Write(two)
	b, _ := tally.Write(two)
	tally.Check(two)
	if !same(two, told(15, given)) || shares(a, b) {
		t.Errorf("Write or Check changes what is handed in, or shares it: %v", two)
	}
	short, _ := tally.Write(api.Tally{Want: 8})
	again, _ := tally.Write(api.Tally{Want: 8})
	if shares(short, again) {
		t.Error("a short text shares its memory")
	}
	x, _ := tally.Parse(15, a)
	y, _ := tally.Parse(15, a)
	x.All[0].From = 78
	if !same(y, two) {
		t.Errorf("what Parse tells shares its memory: %v", y)
	}
}

// random tells numbers that rise; some touch.
func random(r *rand.Rand) []uint32 {
	var l []uint32
	n := uint32(r.Intn(5))
	for range r.Intn(12) {
		n += 1 + uint32(r.Intn(3))*uint32(r.Intn(1000))
		l = append(l, n)
	}
	return l
}

// 27.4
func TestThereAndBack(t *testing.T) {
	r := rand.New(rand.NewSource(27))
	for range 5000 {
		w, numbers := api.Want(r.Intn(16)), random(r)
		x, errno := tally.Of(w, numbers...)
		if errno != api.OK || !same(x, told(w, numbers)) {
			t.Fatalf("Of(%d, %d) = %v, %d", w, numbers, x, errno)
		}
		s, errno := tally.Write(x)
		if errno != api.OK {
			t.Fatalf("Write(%v): %d", x, errno)
		}
		if back, errno := tally.Parse(w, s); !same(back, x) || errno != api.OK {
			t.Fatalf("%v is written as %q, and parsed as %v, %d", x, s, back, errno)
		}
	}
	for _, x := range []api.Tally{ // no numbers are at hand, but there are some
		{Want: 11, Many: api.MaxList, Least: 1, Most: greatest}, {Want: 8, Many: api.MaxList}, {Want: 3, Least: 1, Most: greatest}, told(15, upTo(api.MaxList)), told(15, apart(api.MaxSpans)),
	} {
		s, _ := tally.Write(x)
		if back, errno := tally.Parse(x.Want, s); !same(back, x) || errno != api.OK {
			t.Errorf("%q is parsed as %v, %d", s, back, errno)
		}
	}
}

// 27.5
func TestHold(t *testing.T) {
	r := rand.New(rand.NewSource(5))
	for range 3000 {
		numbers := random(r)
		x, _ := tally.Of(api.WantAny, numbers...)
		many, _ := nset.Count(x.All, greatest)
		if x.Many != int(many) {
			t.Fatalf("Of(%d): %d are told, %d are in All", numbers, x.Many, many)
		}
		if many == 0 {
			continue
		}
		if x.Least != x.All[0].From || x.Most != x.All[len(x.All)-1].To {
			t.Fatalf("Of(%d) = %v", numbers, x)
		}
		for _, y := range []api.Tally{
			{Want: 15, Many: x.Many + 1, Least: x.Least, Most: x.Most, All: x.All},
			{Want: 15, Many: x.Many, Least: x.Least + 1, Most: x.Most, All: x.All},
			{Want: 15, Many: x.Many, Least: x.Least, Most: x.Most + 1, All: x.All},
			{Want: 15, Many: x.Many, Least: x.Least, Most: x.Most, All: x.All[1:]},
		} {
			if errno := tally.Check(y); errno != api.ErrForm {
				t.Fatalf("Check(%v) = %d", y, errno)
			}
		}
	}
}

// P1 to P4
func TestAnythingIsAnswered(t *testing.T) {
	ahead := runtime.NumGoroutine()
	r := rand.New(rand.NewSource(6))
	pieces := []string{"MIN", "MAX", "ALL", "COUNT", " ", " ", " ", "1", "2", "0", ":", ",", "*", "65536", "4294967295", "x", "\xff", "min"}
	for range 100000 {
		var b strings.Builder
		for range r.Intn(14) {
			b.WriteString(pieces[r.Intn(len(pieces))])
		}
		w := api.Want(r.Intn(20))
		x, errno := tally.Parse(w, b.String())
		again, same2 := tally.Parse(w, b.String())
		if errno != same2 || !same(x, again) || errno != api.OK && !same(x, api.Tally{}) {
			t.Fatalf("Parse(%d, %q) = %v, %d and %v, %d", w, b.String(), x, errno, again, same2)
		}
		if s, wrong := tally.Write(x); errno == api.OK && (s != b.String() || wrong != api.OK) {
			t.Fatalf("%q is written as %q, %d", b.String(), s, wrong)
		}
		tally.Word(b.String())
	}
	for range 20000 {
		var l []api.Span
		for range r.Intn(4) {
			l = append(l, api.Span{From: r.Uint32() >> r.Intn(33), To: r.Uint32() >> r.Intn(33)})
		}
		x := api.Tally{Want: api.Want(r.Intn(256)), Many: int(r.Uint64() >> r.Intn(65)), Least: r.Uint32() >> r.Intn(33), Most: r.Uint32() >> r.Intn(33), All: l}
		s, errno := tally.Write(x)
		if tally.Check(x) != errno || errno != api.OK && s != "" {
			t.Fatalf("Write(%v) = %q, %d", x, s, errno)
		}
		tally.Of(x.Want, x.Least, x.Most)
	}
	if behind := runtime.NumGoroutine(); behind > ahead { // fewer, if that of an earlier test was just ending
		t.Errorf("%d goroutines ahead, %d behind", ahead, behind)
	}
}

// P1: a list made by hand may be far too long, and its spans far too great.
func TestManySpansAreAnswered(t *testing.T) {
	l := slices.Repeat(spans(1, greatest), 1<<20)
	if errno := tally.Check(api.Tally{Want: 4, All: l}); errno != api.ErrForm {
		t.Errorf("too many great spans: %d", errno)
	}
	l = slices.Repeat(spans(5, 5), 1<<20)
	if errno := tally.Check(api.Tally{Want: 4, All: l}); errno != api.ErrForm {
		t.Errorf("too many small spans: %d", errno)
	}
	for _, s := range []string{strings.Repeat(" ", 1<<22), "ALL " + strings.Repeat("1,", 1<<21), strings.Repeat("MIN 2 ", 1<<20), "COUNT " + strings.Repeat("0", 1<<22)} {
		if x, errno := tally.Parse(15, s); errno != api.ErrCode || !same(x, api.Tally{}) {
			t.Errorf("a long text: %d", errno)
		}
	}
}
