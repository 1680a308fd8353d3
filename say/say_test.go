package say_test

import (
	"fmt"
	"math"
	"math/rand"
	"runtime"
	"slices"
	"strconv"
	"strings"
	"testing"
	"unsafe"

	"missive/api"
	"missive/say"
	"missive/tally"
)

// The signatures that the chapter lists.
var (
	_ func(string, string, string) string               = say.Done
	_ func(...string) string                            = say.Star
	_ func(int, api.Message, api.Fetch, bool) string    = say.Fetch
	_ func(...uint32) string                            = say.Search
	_ func(string, bool, api.Tally) (string, api.Errno) = say.Esearch
	_ func(string) string                               = say.Literal
	_ func(string) ([]uint32, api.Errno)                = say.Numbers
)

const greatest = math.MaxUint32

// 30.1
func TestDone(t *testing.T) {
	for _, c := range []struct{ tag, word, text, line string }{
		{"a1", "OK", "done", "a1 OK done\r\n"},
		{"*", "BAD", "too long", "* BAD too long\r\n"},
		{"x", "NO", "[TRYCREATE] no such box", "x NO [TRYCREATE] no such box\r\n"},
		{"", "", "", "  \r\n"},
		{"a", "", "b", "a  b\r\n"},
		{"a\r\n", " ", "\xff\x00", "a\r\n   \xff\x00\r\n"},
	} {
		if got := say.Done(c.tag, c.word, c.text); got != c.line {
			t.Errorf("Done(%q, %q, %q) = %q", c.tag, c.word, c.text, got)
		}
	}
}

// 30.1
func TestStar(t *testing.T) {
	for _, c := range []struct {
		words []string
		line  string
	}{
		{nil, "* \r\n"},
		{[]string{""}, "* \r\n"},
		{[]string{"SEARCH"}, "* SEARCH\r\n"},
		{[]string{"2", "EXISTS"}, "* 2 EXISTS\r\n"},
		{[]string{"OK", "[UIDNEXT", "5]"}, "* OK [UIDNEXT 5]\r\n"},
		{[]string{"a", "", "b", ""}, "* a  b \r\n"},
		{[]string{"a b", "\xff\r\n"}, "* a b \xff\r\n\r\n"},
		{slices.Repeat([]string{"x"}, 1<<16), "*" + strings.Repeat(" x", 1<<16) + "\r\n"},
	} {
		if got := say.Star(c.words...); got != c.line {
			t.Errorf("Star(%.40q) = %.40q", c.words, got)
		}
	}
}

// 30.1
func TestLiteral(t *testing.T) {
	for s, want := range map[string]string{
		"": "{0}\r\n", "a": "{1}\r\na", "ab": "{2}\r\nab", "\r\n": "{2}\r\n\r\n", "\x00\xff": "{2}\r\n\x00\xff", "\u00e9": "{2}\r\n\u00e9", "{1}\r\na": "{6}\r\n{1}\r\na",
		"0123456789": "{10}\r\n0123456789", strings.Repeat("x", api.MaxMail): "{65536}\r\n" + strings.Repeat("x", api.MaxMail),
	} {
		if got := say.Literal(s); got != want {
			t.Errorf("Literal(%.40q) = %.40q", s, got)
		}
	}
}

// mails are some whose headers and texts are not to be missed.
func mails() []struct{ header, text string } {
	return []struct{ header, text string }{
		{"", ""},
		{"A: b\n\n", "xy"},
		{"A: b\r\n\r\n", "xy\r\n"},
		{"A: b\n", ""},
		{"A: b", ""},
		{"A: b\r", ""},
		{"A: b\n\n", ""},
		{"\n", "xy"},
		{"\r\n", "A: b\n\nxy"},
		{"", "no header"},
		{"", "no header\n\nxy"},
		{"A: b\n c\nD:\n\n", "\n\n"},
		{"A: b\n", "no field\nE: f\n\nxy"},
		{"A: b\n\n", "\x00\xff)\r\n* BYE\r\n"},
		{strings.Repeat("A: b\n", api.MaxFields+5) + "\n", strings.Repeat("x", 1000)},
	}
}

// 30.2: each item by itself.
func TestFetchOfOne(t *testing.T) {
	m := api.Message{Uid: 7, Flags: api.FlagSeen | api.FlagDraft, Inner: api.Time{Day: 9531, Second: 36001, Zone: -90}, Raw: "A: b\n\nxy"}
	for items, want := range map[api.Fetch]string{
		0: "", api.FetchSeen: "",
		api.FetchFlags: `FLAGS (\Seen \Draft)`,
		api.FetchUid:   "UID 7",
		api.FetchInner: `INTERNALDATE " 5-Feb-1996 10:00:01 -0130"`,
		api.FetchSize:  "RFC822.SIZE 8",
		api.FetchBody:  "BODY[] {8}\r\nA: b\n\nxy",
		api.FetchHead:  "BODY[HEADER] {6}\r\nA: b\n\n",
		api.FetchText:  "BODY[TEXT] {2}\r\nxy",
		api.FetchFlags | api.FetchUid | api.FetchInner | api.FetchSize: `FLAGS (\Seen \Draft) UID 7 INTERNALDATE " 5-Feb-1996 10:00:01 -0130" RFC822.SIZE 8`,
		api.FetchBody | api.FetchSeen:                                  "BODY[] {8}\r\nA: b\n\nxy",
		api.FetchHead | api.FetchText | api.FetchSeen:                  "BODY[HEADER] {6}\r\nA: b\n\n BODY[TEXT] {2}\r\nxy",
	} {
		if got := say.Fetch(3, m, items, false); got != "* 3 FETCH ("+want+")\r\n" {
			t.Errorf("Fetch of %d: %q", items, got)
		}
	}
	for place, want := range map[int]string{1: "1", 0: "0", -1: "-1", api.MaxMails: "4096", math.MaxInt: "9223372036854775807", math.MinInt: "-9223372036854775808"} {
		if got := say.Fetch(place, m, api.FetchUid, true); got != "* "+want+" FETCH (UID 7)\r\n" {
			t.Errorf("Fetch at %d: %q", place, got)
		}
	}
	for uid, want := range map[uint32]string{0: "0", 1: "1", greatest: "4294967295"} {
		if got := say.Fetch(1, api.Message{Uid: uid}, api.FetchUid, false); got != "* 1 FETCH (UID "+want+")\r\n" {
			t.Errorf("Fetch of the number %d: %q", uid, got)
		}
	}
}

// 30.2: any items together, of any mail, stand in one order.
func TestFetchOfSeveral(t *testing.T) {
	order := []api.Fetch{api.FetchFlags, api.FetchUid, api.FetchInner, api.FetchSize, api.FetchBody, api.FetchHead, api.FetchText}
	for i, x := range mails() {
		m := api.Message{Uid: uint32(i), Flags: api.Flag(i), Inner: api.Time{Day: 100 * i, Zone: i}, Raw: x.header + x.text}
		for n := range 256 {
			for _, recent := range []bool{false, true} {
				var l []string
				for _, item := range order {
					if api.Fetch(n)&item != 0 {
						one := say.Fetch(9, m, item, recent)
						l = append(l, strings.TrimSuffix(strings.TrimPrefix(one, "* 9 FETCH ("), ")\r\n"))
					}
				}
				want := "* 9 FETCH (" + strings.Join(l, " ") + ")\r\n"
				if got := say.Fetch(9, m, api.Fetch(n), recent); got != want {
					t.Fatalf("Fetch of %d of %.40q: %.200q, not %.200q", n, m.Raw, got, want)
				}
			}
		}
	}
}

// 30.2, 30.6
func TestFetchOfParts(t *testing.T) {
	for _, x := range mails() {
		raw := x.header + x.text
		for items, want := range map[api.Fetch]string{
			api.FetchBody: "BODY[] " + say.Literal(raw), api.FetchHead: "BODY[HEADER] " + say.Literal(x.header), api.FetchText: "BODY[TEXT] " + say.Literal(x.text),
			api.FetchSize: "RFC822.SIZE " + strconv.Itoa(len(raw)),
		} {
			if got := say.Fetch(1, api.Message{Uid: 1, Raw: raw}, items, false); got != "* 1 FETCH ("+want+")\r\n" {
				t.Errorf("Fetch of %d of %.40q: %.80q", items, raw, got)
			}
		}
	}
}

// part tells the literal of a mail's item.
func part(t *testing.T, raw string, item api.Fetch, word string) string {
	t.Helper()
	line := say.Fetch(1, api.Message{Raw: raw}, item, false)
	behind, is := strings.CutPrefix(line, "* 1 FETCH ("+word+" {")
	size, behind, cut := strings.Cut(behind, "}\r\n")
	text, ends := strings.CutSuffix(behind, ")\r\n")
	if n, err := strconv.Atoi(size); !is || !cut || !ends || err != nil || n != len(text) {
		t.Fatalf("%s of %q: %q", word, raw, line)
	}
	return text
}

// 30.6: of any bytes.
func TestApart(t *testing.T) {
	r := rand.New(rand.NewSource(6))
	pieces := []string{"A: b", "A:", ":", "\n", "\n", "\r\n", "\r", " ", "\t", "x", "\xff", "\n\n", "{5}\r\n", ")"}
	for range 20000 {
		var b strings.Builder
		for range r.Intn(9) {
			b.WriteString(pieces[r.Intn(len(pieces))])
		}
		raw := b.String()
		header, text := part(t, raw, api.FetchHead, "BODY[HEADER]"), part(t, raw, api.FetchText, "BODY[TEXT]")
		if header+text != raw || part(t, raw, api.FetchBody, "BODY[]") != raw {
			t.Fatalf("%q has the header %q and the text %q", raw, header, text)
		}
	}
}

// 30.2: all flags, and those that there are not.
func TestFetchOfFlags(t *testing.T) {
	words := []string{`\Seen`, `\Answered`, `\Flagged`, `\Deleted`, `\Draft`}
	for n := range 256 {
		var l []string
		for i, word := range words {
			if n&(1<<i) != 0 {
				l = append(l, word)
			}
		}
		m := api.Message{Flags: api.Flag(n)}
		if got := say.Fetch(2, m, api.FetchFlags, false); got != "* 2 FETCH (FLAGS ("+strings.Join(l, " ")+"))\r\n" {
			t.Errorf("Fetch of the flags %d: %q", n, got)
		}
		l = append(l, `\Recent`)
		if got := say.Fetch(2, m, api.FetchFlags, true); got != "* 2 FETCH (FLAGS ("+strings.Join(l, " ")+"))\r\n" {
			t.Errorf("Fetch of the flags %d, recent: %q", n, got)
		}
	}
	if got := say.Fetch(2, api.Message{}, api.FetchFlags, true); got != "* 2 FETCH (FLAGS (\\Recent))\r\n" {
		t.Errorf("Fetch of a mail that is recent and has no flags: %q", got)
	}
}

// 30.2: times at each end of what is right, and one past it.
func TestFetchOfTimes(t *testing.T) {
	for inner, want := range map[api.Time]string{
		{}: " 1-Jan-1970 00:00:00 +0000", {Day: api.MinDay, Zone: -5999}: " 1-Jan-0001 00:00:00 -9959", {Day: api.MaxDay, Second: 86399, Zone: 5999}: "31-Dec-9999 23:59:59 +9959",
		{Day: api.MinDay - 1}: "", {Day: api.MaxDay + 1}: "", {Second: -1}: "", {Second: 86400}: "", {Zone: -6000}: "", {Zone: 6000}: "", {Day: math.MinInt, Second: math.MaxInt}: "",
	} {
		if got := say.Fetch(2, api.Message{Inner: inner}, api.FetchInner, false); got != `* 2 FETCH (INTERNALDATE "`+want+"\")\r\n" {
			t.Errorf("Fetch of the time %v: %q", inner, got)
		}
	}
	if got := say.Fetch(2, api.Message{Uid: 1, Inner: api.Time{Zone: 6000}}, api.FetchUid|api.FetchInner|api.FetchSize, false); got != "* 2 FETCH (UID 1 INTERNALDATE \"\" RFC822.SIZE 0)\r\n" {
		t.Errorf("Fetch of a time that is not right beside others: %q", got)
	}
}

// numbersOf are lists, and the lines of Search.
func numbersOf() map[string][]uint32 {
	return map[string][]uint32{
		"* SEARCH\r\n": nil, "* SEARCH 1\r\n": {1}, "* SEARCH 2 5\r\n": {2, 5}, "* SEARCH 5 2 2\r\n": {5, 2, 2}, "* SEARCH 4294967295\r\n": {greatest}, "* SEARCH 10 100 1000\r\n": {10, 100, 1000},
		"* SEARCH" + strings.Repeat(" 4294967295", api.MaxList) + "\r\n": slices.Repeat([]uint32{greatest}, api.MaxList),
	}
}

// 30.3, 30.5
func TestSearchAndNumbers(t *testing.T) {
	for line, numbers := range numbersOf() {
		if got := say.Search(numbers...); got != line {
			t.Errorf("Search(%.40v) = %.60q", numbers, got)
		}
		if got, errno := say.Numbers(line); !slices.Equal(got, numbers) || errno != api.OK {
			t.Errorf("Numbers(%.60q) = %.60v, %d", line, got, errno)
		}
	}
	for line, numbers := range map[string][]uint32{"* SEARCH 0\r\n": {0}, "* SEARCH 1 0 2\r\n": {1, 0, 2}, "* SEARCH 0 0\r\n": {0, 0}} {
		if got := say.Search(numbers...); got != line {
			t.Errorf("Search(%v) = %q", numbers, got)
		}
		if got, errno := say.Numbers(line); len(got) != 0 || errno != api.ErrCode {
			t.Errorf("Numbers(%q) = %v, %d", line, got, errno)
		}
	}
	if got := say.Search(); got != "* SEARCH\r\n" {
		t.Errorf("Search of no numbers: %q", got)
	}
}

// 30.3, P2
func TestNumbersRefuses(t *testing.T) {
	for _, line := range []string{
		"", "*", "* ", "\r\n", "* \r\n", "SEARCH\r\n", "SEARCH 2\r\n", "*SEARCH\r\n", "*  SEARCH\r\n", " * SEARCH\r\n", "* SEARCH", "* SEARCH\n", "* SEARCH\r", "* SEARCH\r\n\r\n", "* SEARCH\n\r", "* SEARCH \r\n", "* SEARCH\r\n ", "* SEARCH \n",
		"* SEARCH 2", "* SEARCH 2\n", "* SEARCH 2\r", "* SEARCH 2 \r\n", "* SEARCH 2\r\n5", "* SEARCH 2\r\n* SEARCH 5\r\n", "* SEARCH  2\r\n", "* SEARCH 2  5\r\n", "* SEARCH2\r\n", "* SEARCH\t2\r\n", "* SEARCH 2\t5\r\n", "* SEARCH 2\r\n5\r\n", "* SEARCH\u00a02\r\n",
		"* SEARCH 0\r\n", "* SEARCH 02\r\n", "* SEARCH 00\r\n", "* SEARCH 2 05\r\n", "* SEARCH 4294967296\r\n", "* SEARCH 42949672950\r\n", "* SEARCH 99999999999999999999999\r\n", "* SEARCH -1\r\n", "* SEARCH +1\r\n", "* SEARCH 1.0\r\n", "* SEARCH 1e1\r\n", "* SEARCH 0x1\r\n", "* SEARCH 1_0\r\n",
		"* SEARCH x\r\n", "* SEARCH 2 x\r\n", "* SEARCH 2,5\r\n", "* SEARCH 2:5\r\n", "* SEARCH *\r\n", "* SEARCH 2 *\r\n", "* SEARCH SEARCH\r\n", "* 2 SEARCH\r\n", "2 * SEARCH\r\n", "* search 2\r\n", "* Search\r\n", "* ESEARCH 2\r\n", "* 2 EXISTS\r\n", "a SEARCH 2\r\n", "** SEARCH 2\r\n", "* SEARCH 2\x00\r\n", "* SEARCH \xff\r\n", "* SEARCH \u0662\r\n",
	} {
		if got, errno := say.Numbers(line); len(got) != 0 || errno != api.ErrCode {
			t.Errorf("Numbers(%q) = %v, %d", line, got, errno)
		}
	}
}

// 30.3
func TestEsearch(t *testing.T) {
	for _, c := range []struct {
		tag     string
		want    api.Want
		numbers []uint32
		text    string
	}{
		{"a1", api.WantCount, []uint32{2, 5}, " COUNT 2"},
		{"a1", api.WantAny, []uint32{2, 3, 4, 9}, " MIN 2 MAX 9 ALL 2:4,9 COUNT 4"},
		{"a1", api.WantMin, []uint32{2, 3}, " MIN 2"},
		{"*", api.WantMax | api.WantAll, []uint32{2, 3}, " MAX 3 ALL 2:3"},
		{"", api.WantCount, nil, " COUNT 0"},
		{"a1", api.WantAll, nil, ""},
		{"a1", api.WantMin | api.WantMax, nil, ""},
		{"a1", 0, nil, ""},
		{"a1", 0, []uint32{1}, ""},
		{`a"b\`, api.WantCount, nil, " COUNT 0"},
		{"a b)\r\n\xff", 0, nil, ""},
	} {
		x, _ := tally.Of(c.want, c.numbers...)
		for uid, word := range map[bool]string{false: "", true: " UID"} {
			want := `* ESEARCH (TAG "` + c.tag + `")` + word + c.text + "\r\n"
			if got, errno := say.Esearch(c.tag, uid, x); got != want || errno != api.OK {
				t.Errorf("Esearch(%q, %t, %v) = %q, %d", c.tag, uid, x, got, errno)
			}
		}
	}
}

// 30.3, P2
func TestEsearchRefuses(t *testing.T) {
	for what, x := range map[string]api.Tally{
		"a Least that is not wanted":  {Least: 1},
		"a count that is not wanted":  {Want: api.WantMin, Many: 1},
		"a want that there is not":    {Want: api.WantAny + 1},
		"Least above Most":            {Want: api.WantMin | api.WantMax, Least: 2, Most: 1},
		"fewer than none":             {Want: api.WantCount, Many: -1},
		"a span that is not packed":   {Want: api.WantAll, All: []api.Span{{From: 2, To: 1}}},
		"a span of a star":            {Want: api.WantAll, All: []api.Span{{}}},
		"not as many as All has":      {Want: api.WantAll | api.WantCount, Many: 1, All: []api.Span{{From: 1, To: 2}}},
		"more spans than may be":      {Want: api.WantAll, All: make([]api.Span, api.MaxSpans+1)},
		"Least without Most":          {Want: api.WantMin | api.WantMax, Least: 2},
		"more numbers than there are": {Want: api.WantAll, All: []api.Span{{From: 1, To: greatest}}},
	} {
		for _, uid := range []bool{false, true} {
			if got, errno := say.Esearch("a1", uid, x); got != "" || errno != api.ErrForm {
				t.Errorf("Esearch of %s: %q, %d", what, got, errno)
			}
		}
	}
}

// shares tells whether two texts have memory together.
func shares(a, b string) bool {
	if len(a) == 0 || len(b) == 0 {
		return false
	}
	x, y := uintptr(unsafe.Pointer(unsafe.StringData(a))), uintptr(unsafe.Pointer(unsafe.StringData(b)))
	return x < y+uintptr(len(b)) && y < x+uintptr(len(a))
}

// 30.4
func TestAnswersAreNewMemory(t *testing.T) {
	m := api.Message{Uid: 7, Flags: api.FlagSeen, Raw: strings.Clone("A: b\n\nxy")}
	words := []string{"a", "b"}
	numbers := []uint32{1, 2}
	x, _ := tally.Of(api.WantAny, numbers...)
	line := strings.Clone("* SEARCH 1 2\r\n")
	all := func() []string {
		e, _ := say.Esearch("a1", true, x)
		return []string{
			say.Done("a1", "OK", "done"), say.Done("", "", ""), say.Star(words...), say.Star(), say.Star(line), say.Literal(m.Raw), say.Literal(""),
			say.Fetch(1, m, api.FetchAll, true), say.Fetch(1, m, 0, false), say.Search(numbers...), say.Search(), e,
		}
	}
	l := append(all(), all()...)
	l = append(l, m.Raw, line)
	for i, a := range l {
		for _, b := range l[:i] {
			if shares(a, b) {
				t.Errorf("%q and %q share their memory", a, b)
			}
		}
	}
	one, _ := say.Numbers(line)
	two, _ := say.Numbers(line)
	one[0] = 9
	if two[0] != 1 || !slices.Equal(words, []string{"a", "b"}) || !slices.Equal(numbers, []uint32{1, 2}) || !slices.Equal(x.All, []api.Span{{From: 1, To: 2}}) {
		t.Errorf("what was told, or handed in, is changed: %v %v %v %v", two, words, numbers, x)
	}
}

// example 1
func TestExample(t *testing.T) {
	if got := say.Search(2, 5); got != "* SEARCH 2 5\r\n" {
		t.Errorf("Search of 2 and 5: %q", got)
	}
}

// 30.5
func TestThereAndBack(t *testing.T) {
	r := rand.New(rand.NewSource(30))
	for range 20000 {
		l := make([]uint32, r.Intn(9))
		for i := range l {
			l[i] = 1 + (r.Uint32()>>r.Intn(32))%greatest
		}
		line := say.Search(l...)
		if got, errno := say.Numbers(line); !slices.Equal(got, l) || errno != api.OK {
			t.Fatalf("%q of %v has %v, %d", line, l, got, errno)
		}
	}
}

// P1 to P4: any lines are answered, and just those that Search tells are told.
func TestAnyLines(t *testing.T) {
	ahead := runtime.NumGoroutine()
	r := rand.New(rand.NewSource(31))
	pieces := []string{"* SEARCH", "* ", "*", "SEARCH", " ", " ", " 1", " 25", " 0", "0", "7", "4294967295", " 4294967296", "\r\n", "\r", "\n", "\t", "x", "\xff", "-"}
	is, told := 0, map[string][]uint32{}
	for range 200000 {
		line := ""
		if r.Intn(2) == 0 {
			line = "* SEARCH"
		}
		for range r.Intn(5) {
			line += pieces[r.Intn(len(pieces))]
		}
		if r.Intn(2) == 0 {
			line += "\r\n"
		}
		l, errno := say.Numbers(line)
		if errno == api.OK {
			is++
			told[line] = l
		}
		if right := isLine(line); right != (errno == api.OK) || errno == api.OK && fmt.Sprint(l) != "["+strings.TrimSpace(line[len("* SEARCH"):])+"]" || errno != api.OK && (errno != api.ErrCode || len(l) > 0) {
			t.Fatalf("Numbers(%q) = %v, %d", line, l, errno)
		}
	}
	if is < 1000 || len(told) < 50 {
		t.Errorf("only %d of the lines were right, %d in all", len(told), is)
	}
	for _, s := range []string{" ", "1 ", "x", "\r\n", "* SEARCH\r\n", "0"} {
		long := strings.Repeat(s, 1<<18)
		say.Numbers(long)
		say.Numbers("* SEARCH " + long)
		say.Fetch(1, api.Message{Raw: long}, api.FetchAll, true)
		say.Done(long, long, long)
	}
	if behind := runtime.NumGoroutine(); behind > ahead { // fewer, if that of an earlier test was just ending
		t.Errorf("%d goroutines ahead, %d behind", ahead, behind)
	}
}

// isLine tells whether Search tells a line of numbers that are not 0, byte by byte.
func isLine(line string) bool {
	left, begins := strings.CutPrefix(line, "* SEARCH")
	left, ends := strings.CutSuffix(left, "\r\n")
	if !begins || !ends {
		return false
	}
	if left == "" {
		return true
	}
	for _, word := range strings.Split(left, " ")[1:] {
		n, err := strconv.ParseUint(word, 10, 64)
		if err != nil || n == 0 || n > greatest || strconv.FormatUint(n, 10) != word {
			return false
		}
	}
	return left[0] == ' '
}
