package key_test

import (
	"fmt"
	"math"
	"math/rand"
	"runtime"
	"slices"
	"strings"
	"testing"
	"unsafe"

	"missive/api"
	"missive/key"
)

// The signatures that the chapter lists.
var (
	_ func(api.Key) api.Errno                              = key.Check
	_ func(api.Charset, ...api.Token) (api.Key, api.Errno) = key.Parse
	_ func(api.Key) ([]api.Token, api.Errno)               = key.Write
	_ func(api.Key) (int, api.Errno)                       = key.Depth
	_ func(api.Key) (api.Key, api.Errno)                   = key.Plain
)

// Short ways to make keys by hand.
var (
	every  = api.Key{Kind: api.KeyAll}
	recent = api.Key{Kind: api.KeyRecent}
	seen   = flag(api.FlagSeen)
)

func flag(f api.Flag) api.Key                 { return api.Key{Kind: api.KeyFlag, Flags: f} }
func field(name, text string) api.Key         { return api.Key{Kind: api.KeyField, Name: name, Text: text} }
func body(s string) api.Key                   { return api.Key{Kind: api.KeyBody, Text: s} }
func text(s string) api.Key                   { return api.Key{Kind: api.KeyText, Text: s} }
func day(kind api.KeyKind, d int) api.Key     { return api.Key{Kind: kind, Day: d} }
func size(kind api.KeyKind, n uint32) api.Key { return api.Key{Kind: kind, N: n} }
func uids(l ...api.Span) api.Key              { return api.Key{Kind: api.KeyUids, Set: l} }
func places(l ...api.Span) api.Key            { return api.Key{Kind: api.KeyPlaces, Set: l} }
func not(k api.Key) api.Key                   { return api.Key{Kind: api.KeyNot, Kids: []api.Key{k}} }
func or(l ...api.Key) api.Key                 { return api.Key{Kind: api.KeyOr, Kids: l} }
func and(l ...api.Key) api.Key                { return api.Key{Kind: api.KeyAnd, Kids: l} }

// days are the six kinds that have a day.
func days() []api.KeyKind {
	return []api.KeyKind{api.KeyBefore, api.KeyOn, api.KeySince, api.KeySentBefore, api.KeySentOn, api.KeySentSince}
}

// same takes nil and empty lists as alike.
func same(a, b api.Key) bool {
	return a.Kind == b.Kind && a.Flags == b.Flags && a.Name == b.Name && a.Text == b.Text && a.Day == b.Day && a.N == b.N &&
		slices.Equal(a.Set, b.Set) && slices.EqualFunc(a.Kids, b.Kids, same)
}

// depth is as the chapter words it.
func depth(k api.Key) int {
	deepest := 0
	for _, kid := range k.Kids {
		deepest = max(deepest, depth(kid))
	}
	return deepest + 1
}

// count tells how many keys there are in one, itself among them.
func count(k api.Key) int {
	many := 1
	for _, kid := range k.Kids {
		many += count(kid)
	}
	return many
}

// own copies a key, all of it.
func own(k api.Key) api.Key {
	k.Name, k.Text, k.Set, k.Kids = strings.Clone(k.Name), strings.Clone(k.Text), slices.Clone(k.Set), slices.Clone(k.Kids)
	for i, kid := range k.Kids {
		k.Kids[i] = own(kid)
	}
	return k
}

// deep tells KeyNot of KeyNot and so on: so many levels, the last one being k's first.
func deep(levels int, k api.Key) api.Key {
	for range levels - 1 {
		k = not(k)
	}
	return k
}

// repeated tells a list of so many times k.
func repeated(many int, k api.Key) []api.Key {
	return slices.Repeat([]api.Key{k}, many)
}

// spans tells so many of them.
func spans(many int) []api.Span {
	var l []api.Span
	for i := range uint32(many) {
		l = append(l, api.Span{From: 2*i + 1, To: 2*i + 1})
	}
	return l
}

// ordinary tells a right key of each kind.
func ordinary() map[api.KeyKind]api.Key {
	l := map[api.KeyKind]api.Key{
		api.KeyAll: every, api.KeyFlag: seen, api.KeyRecent: recent, api.KeyField: field("Subject", "a"), api.KeyBody: body("a"), api.KeyText: text("a"),
		api.KeyLarger: size(api.KeyLarger, 5), api.KeySmaller: size(api.KeySmaller, 5), api.KeyUids: uids(api.Span{From: 1, To: 2}), api.KeyPlaces: places(api.Span{From: 1}),
		api.KeyNot: not(every), api.KeyOr: or(every, seen), api.KeyAnd: and(every, seen),
	}
	for _, kind := range days() {
		l[kind] = day(kind, 9531)
	}
	return l
}

// rightKeys are keys that are right, at each edge.
func rightKeys() map[string]api.Key {
	l := map[string]api.Key{
		"all flags": flag(api.FlagAll), "two flags": flag(api.FlagDraft | api.FlagDeleted),
		"a name of one byte": field("!", ""), "a name of each end": field("!~", "x"), "a long name": field(strings.Repeat("n", 1<<17), "x"),
		"no text in a field": field("a", ""), "no text in the body": body(""), "no text": text(""),
		"a text that is not folded": text("ABC"), "a text that is no UTF-8": body("\xff\x00\xc3"), "a text with a line's end": field("a", "b\r\n"),
		"larger than 0": size(api.KeyLarger, 0), "smaller than 0": size(api.KeySmaller, 0),
		"larger than the greatest": size(api.KeyLarger, math.MaxUint32), "smaller than the greatest": size(api.KeySmaller, math.MaxUint32),
		"uids of a star": uids(api.Span{}), "places that fall": places(api.Span{From: 9, To: 1}, api.Span{From: 9, To: 1}),
		"uids of MaxSpans": uids(spans(api.MaxSpans)...), "places of MaxSpans": places(spans(api.MaxSpans)...),
		"or of three": or(every, every, every), "and of three": and(every, every, every), "and of and": and(and(every, seen), and(seen, every)),
		"not, MaxDepth deep": deep(api.MaxDepth, every), "deep on its second kid": and(every, deep(api.MaxDepth-1, every)),
		"and of MaxKeys": and(repeated(api.MaxKeys-1, every)...), "or of MaxKeys": or(repeated(api.MaxKeys-1, seen)...), "not of MaxKeys": not(or(repeated(api.MaxKeys-2, seen)...)),
		"MaxKeys below": and(or(repeated(api.MaxKeys-3, every)...), recent),
		"empty lists":   {Kind: api.KeyAll, Set: []api.Span{}, Kids: []api.Key{}},
	}
	for _, kind := range days() {
		for _, d := range []int{api.MinDay, api.MinDay + 1, -1, 0, 1, api.MaxDay - 1, api.MaxDay} {
			l[fmt.Sprintf("kind %d of day %d", kind, d)] = day(kind, d)
		}
	}
	for kind, k := range ordinary() {
		l[fmt.Sprintf("kind %d", kind)] = k
		l[fmt.Sprintf("kind %d within not", kind)] = not(k)
	}
	for f := api.FlagSeen; f < api.FlagAll; f++ {
		l[fmt.Sprintf("the flags %d", f)] = flag(f)
	}
	return l
}

// fieldsOf tells which of the fields a kind has, by the letters f, n, t, d, N, s and k.
func fieldsOf(kind api.KeyKind) string {
	switch kind {
	case api.KeyFlag:
		return "f"
	case api.KeyField:
		return "nt"
	case api.KeyBody, api.KeyText:
		return "t"
	case api.KeyLarger, api.KeySmaller:
		return "N"
	case api.KeyUids, api.KeyPlaces:
		return "s"
	case api.KeyNot, api.KeyOr, api.KeyAnd:
		return "k"
	}
	if slices.Contains(days(), kind) {
		return "d"
	}
	return ""
}

// withField tells k with one of its fields filled, by its letter.
func withField(k api.Key, letter rune) api.Key {
	switch letter {
	case 'f':
		k.Flags = api.FlagSeen
	case 'n':
		k.Name = "a"
	case 't':
		k.Text = "a"
	case 'd':
		k.Day = 1
	case 'N':
		k.N = 1
	case 's':
		k.Set = []api.Span{{From: 1, To: 1}}
	case 'k':
		k.Kids = []api.Key{every}
	}
	return k
}

// alone are keys that are not right, none of which is so for its kids.
func alone() map[string]api.Key {
	l := map[string]api.Key{
		"zero": {}, "no kind with kids": {Kids: []api.Key{every, every}}, "KeyCount": {Kind: api.KeyCount}, "kind 255": {Kind: 255},
		"no flag": flag(0), "a flag that is none": flag(api.FlagAll + 1), "all flags and one more": flag(api.FlagAll + 1 | api.FlagAll), "flags 255": flag(255), "flag 128": flag(128),
		"no name": field("", "a"), "a name with a colon": field("a:", "x"), "a name with a space": field("a b", "x"), "a name with a tab": field("a\t", "x"), "a name with a line's end": field("a\n", "x"),
		"a name of 127": field("a\x7f", "x"), "a name of letters": field("\xc3\xa9", "x"), "a name of a zero": field("\x00", "x"),
		"uids of none": uids(), "places of none": places(), "uids of empty": {Kind: api.KeyUids, Set: []api.Span{}},
		"uids of too many": uids(spans(api.MaxSpans + 1)...), "places of too many": places(spans(api.MaxSpans + 1)...),
		"not of none": {Kind: api.KeyNot}, "not of two": {Kind: api.KeyNot, Kids: []api.Key{every, every}}, "not of empty": {Kind: api.KeyNot, Kids: []api.Key{}},
		"or of none": or(), "or of one": or(every), "and of none": and(), "and of one": and(every),
	}
	for _, kind := range days() {
		for _, d := range []int{api.MinDay - 1, api.MaxDay + 1, math.MinInt, math.MaxInt} {
			l[fmt.Sprintf("kind %d of day %d", kind, d)] = day(kind, d)
		}
	}
	for kind, k := range ordinary() {
		for _, letter := range "fntdNsk" {
			if !strings.ContainsRune(fieldsOf(kind), letter) {
				l[fmt.Sprintf("kind %d with %c", kind, letter)] = withField(k, letter)
			}
		}
	}
	return l
}

// within are keys that stand within themselves, or in very many places.
func within() map[string]api.Key {
	self := make([]api.Key, 2)
	self[0], self[1] = api.Key{Kind: api.KeyAnd, Kids: self}, every
	only := make([]api.Key, 1)
	only[0] = api.Key{Kind: api.KeyNot, Kids: only}
	wide := every
	for range api.MaxDepth - 1 {
		wide = or(wide, wide)
	}
	return map[string]api.Key{"and within itself": self[0], "not within itself": only[0], "two of two, MaxDepth deep": wide, "far too deep": deep(1<<16, every)}
}

// wrongKeys are keys that are not right.
func wrongKeys() map[string]api.Key {
	l := within()
	for what, k := range alone() {
		l[what] = k
		l[what+" within not"] = not(k)
		l[what+" as the first kid"] = or(k, every)
		l[what+" as the last kid"] = and(every, seen, k)
		l[what+" at MaxDepth"] = deep(api.MaxDepth, k)
	}
	l["not, one too deep"] = deep(api.MaxDepth+1, every)
	l["and, one too deep"] = and(every, deep(api.MaxDepth, every))
	l["or, one too deep on the way"] = or(deep(api.MaxDepth, every), every)
	l["and of one too many"] = and(repeated(api.MaxKeys, every)...)
	l["or of one too many"] = or(repeated(api.MaxKeys, every)...)
	l["not of one too many"] = not(or(repeated(api.MaxKeys-1, every)...))
	l["one too many below"] = and(or(repeated(api.MaxKeys-2, every)...), recent)
	l["very many"] = and(repeated(1<<18, every)...)
	return l
}

// 23.1
func TestCheck(t *testing.T) {
	for what, k := range rightKeys() {
		if errno := key.Check(k); errno != api.OK {
			t.Errorf("Check of %s: %d", what, errno)
		}
	}
	for what, k := range wrongKeys() {
		if errno := key.Check(k); errno != api.ErrForm {
			t.Errorf("Check of %s: %d", what, errno)
		}
	}
	for kind := range 256 {
		_, is := ordinary()[api.KeyKind(kind)]
		k := ordinary()[api.KeyKind(kind)]
		k.Kind = api.KeyKind(kind)
		if is != (key.Check(k) == api.OK) || is != (kind > 0 && kind < int(api.KeyCount)) {
			t.Errorf("Check of kind %d: %d", kind, key.Check(k))
		}
	}
}

// 23.1, P2
func TestDepth(t *testing.T) {
	for what, k := range rightKeys() {
		if got, errno := key.Depth(k); got != depth(k) || errno != api.OK {
			t.Errorf("Depth of %s: %d, %d, not %d", what, got, errno, depth(k))
		}
	}
	for what, k := range wrongKeys() {
		if got, errno := key.Depth(k); got != 0 || errno != api.ErrForm {
			t.Errorf("Depth of %s: %d, %d, not ErrForm alone", what, got, errno)
		}
	}
	for want, k := range map[int]api.Key{1: every, 2: not(every), 3: or(not(seen), every, every), 4: and(every, or(every, not(seen)), not(every)), api.MaxDepth: deep(api.MaxDepth, seen)} {
		if got, errno := key.Depth(k); got != want || errno != api.OK {
			t.Errorf("Depth of %v: %d, %d, not %d", k, got, errno, want)
		}
	}
}

// 23.2, P2
func TestWriteAndPlainOfWhatIsNotRight(t *testing.T) {
	for what, k := range wrongKeys() {
		if l, errno := key.Write(k); len(l) != 0 || errno != api.ErrForm {
			t.Errorf("Write of %s: %d tokens, %d, not ErrForm alone", what, len(l), errno)
		}
		if got, errno := key.Plain(k); !same(got, api.Key{}) || errno != api.ErrForm {
			t.Errorf("Plain of %s: %d, not ErrForm alone", what, errno)
		}
	}
	for what, k := range rightKeys() {
		if l, errno := key.Write(k); len(l) == 0 || errno != api.OK {
			t.Errorf("Write of %s: %d tokens, %d", what, len(l), errno)
		}
		if got, errno := key.Plain(k); key.Check(got) != api.OK || errno != api.OK {
			t.Errorf("Plain of %s: %d, and Check of it %d", what, errno, key.Check(got))
		}
	}
}

// tokens cuts a text: brackets stand by themselves, a string between quotation marks; the rest are atoms.
func tokens(s string) []api.Token {
	var l []api.Token
	for s = strings.TrimLeft(s, " "); s != ""; s = strings.TrimLeft(s, " ") {
		var one string
		switch {
		case s[0] == '"':
			one, s, _ = strings.Cut(s[1:], `"`)
			l = append(l, api.Token{Kind: api.TokenString, Text: one})
		case s[0] == '(':
			l, s = append(l, api.Token{Kind: api.TokenOpen, Text: "("}), s[1:]
		case s[0] == ')':
			l, s = append(l, api.Token{Kind: api.TokenClose, Text: ")"}), s[1:]
		default:
			end := strings.IndexAny(s, " ()")
			if end < 0 {
				end = len(s)
			}
			l, s = append(l, api.Token{Kind: api.TokenAtom, Text: s[:end]}), s[end:]
		}
	}
	return l
}

// told is the way back of tokens: what stands there is told alike only if the kinds are alike, too.
func told(l []api.Token) string {
	var all []string
	for _, t := range l {
		switch {
		case t.Kind == api.TokenString:
			all = append(all, `"`+t.Text+`"`)
		case t.Kind == api.TokenAtom, t == api.Token{Kind: api.TokenOpen, Text: "("}, t == api.Token{Kind: api.TokenClose, Text: ")"}:
			all = append(all, t.Text)
		default:
			all = append(all, fmt.Sprintf("<%v>", t))
		}
	}
	return strings.Join(all, " ")
}

// says sees that words say a key.
func says(t *testing.T, c api.Charset, words string, want api.Key) {
	t.Helper()
	k, errno := key.Parse(c, tokens(words)...)
	if !same(k, want) || errno != api.OK {
		t.Errorf("Parse(%d, %.200s) = %.300v, %d, not %.300v", c, words, k, errno, want)
	}
	if errno == api.OK && key.Check(k) != api.OK {
		t.Errorf("Parse(%d, %.200s) is not right", c, words)
	}
}

// refuses sees that words are answered by an error alone.
func refuses(t *testing.T, what string, c api.Charset, l []api.Token, want ...api.Errno) {
	t.Helper()
	if k, errno := key.Parse(c, l...); !same(k, api.Key{}) || !slices.Contains(want, errno) {
		t.Errorf("%s: Parse(%d, %.200s) = %.200v, %d, not one of %v alone", what, c, told(l), k, errno, want)
	}
}

// sayings are words, and what they say; all letters of the words outside of texts and names may be great or small.
func sayings() map[string]api.Key {
	l := map[string]api.Key{
		"ALL": every, "RECENT": recent, "OLD": not(recent), "NEW": and(recent, not(seen)),
		`BODY "a b"`: body("a b"), "BODY a": body("a"), `BODY ""`: body(""), `TEXT "x"`: text("x"), "TEXT x": text("x"), `TEXT ""`: text(""), "TEXT all": text("all"),
		`HEADER "X-y" "b"`: field("X-y", "b"), "HEADER x b": field("x", "b"), `HEADER x ""`: field("x", ""), `HEADER from "b"`: field("from", "b"), `HEADER header header`: field("header", "header"), "HEADER !~ 1": field("!~", "1"),
		"LARGER 0": size(api.KeyLarger, 0), "LARGER 1": size(api.KeyLarger, 1), "LARGER 4294967295": size(api.KeyLarger, math.MaxUint32),
		"SMALLER 0": size(api.KeySmaller, 0), "SMALLER 70": size(api.KeySmaller, 70), "SMALLER 4294967295": size(api.KeySmaller, math.MaxUint32),
		"UID 1": uids(api.Span{From: 1, To: 1}), "UID 3:1,*,4:*": uids(api.Span{From: 3, To: 1}, api.Span{}, api.Span{From: 4}),
		"1": places(api.Span{From: 1, To: 1}), "*": places(api.Span{}), "*:4294967295,7": places(api.Span{To: math.MaxUint32}, api.Span{From: 7, To: 7}),
		"NOT ALL": not(every), "NOT NOT ALL": not(not(every)), "NOT (ALL)": not(every), "NOT OLD": not(not(recent)), "NOT NEW": not(and(recent, not(seen))), "NOT 1": not(places(api.Span{From: 1, To: 1})),
		"OR ALL SEEN": or(every, seen), "OR OR ALL SEEN RECENT": or(or(every, seen), recent), "OR ALL OR SEEN RECENT": or(every, or(seen, recent)), "OR (ALL SEEN) NOT 1": or(and(every, seen), not(places(api.Span{From: 1, To: 1}))),
		"ALL SEEN": and(every, seen), "(ALL SEEN)": and(every, seen), "(ALL) (SEEN)": and(every, seen), "((ALL))": every, "ALL (SEEN ALL)": and(every, and(seen, every)), "NEW ALL": and(and(recent, not(seen)), every),
		"ALL ALL ALL": and(every, every, every), "OR ALL SEEN ALL": and(or(every, seen), every), "NOT ALL SEEN": and(not(every), seen), "(NOT (OR (ALL) ((SEEN))))": not(or(every, seen)),
		`OR SEEN NOT FROM "a"`: or(seen, not(field("FROM", "a"))),
	}
	for name, f := range map[string]api.Flag{"ANSWERED": api.FlagAnswered, "DELETED": api.FlagDeleted, "DRAFT": api.FlagDraft, "FLAGGED": api.FlagFlagged, "SEEN": api.FlagSeen} {
		l[name], l["UN"+name], l["NOT UN"+name] = flag(f), not(flag(f)), not(not(flag(f)))
	}
	for _, name := range []string{"BCC", "CC", "FROM", "SUBJECT", "TO"} {
		l[name+` "a b"`], l[name+" b"], l[name+` ""`] = field(name, "a b"), field(name, "b"), field(name, "")
	}
	for i, name := range []string{"BEFORE", "ON", "SINCE", "SENTBEFORE", "SENTON", "SENTSINCE"} {
		kind := days()[i]
		l[name+" 5-Feb-1996"], l[name+` "5-Feb-1996"`] = day(kind, 9531), day(kind, 9531)
		l[name+" 1-Jan-0001"], l[name+" 31-Dec-9999"], l[name+" 1-Jan-1970"] = day(kind, api.MinDay), day(kind, api.MaxDay), day(kind, 0)
	}
	return l
}

// letters changes a text's, every so many.
func letters(s string, every int, change func(string) string) string {
	b := []byte(s)
	for i := 0; i < len(b); i += every {
		copy(b[i:], change(string(b[i:i+1])))
	}
	return string(b)
}

// 23.1
func TestParse(t *testing.T) {
	for words, want := range sayings() {
		for c := api.CharsetAscii; c < api.CharsetCount; c++ {
			says(t, c, words, want)
		}
		if want.Kind == api.KeyField && strings.HasPrefix(words, "HEADER") {
			says(t, api.CharsetUtf8, "header"+strings.TrimPrefix(words, "HEADER"), want) // the name is as it stands
			says(t, api.CharsetUtf8, "hEaDeR"+strings.TrimPrefix(words, "HEADER"), want)
			continue
		}
		says(t, api.CharsetUtf8, strings.ToLower(words), want)
		says(t, api.CharsetUtf8, strings.ToUpper(words), want)
		says(t, api.CharsetUtf8, letters(words, 2, strings.ToLower), want)
		says(t, api.CharsetUtf8, letters(strings.ToLower(words), 3, strings.ToUpper), want)
	}
	many, _ := key.Parse(api.CharsetAscii, tokens("uid "+commas(api.MaxSpans))...)
	if !same(many, uids(spans(api.MaxSpans)...)) {
		t.Errorf("MaxSpans numbers are not a set of as many")
	}
	says(t, api.CharsetAscii, commas(api.MaxSpans), places(spans(api.MaxSpans)...))
}

// commas tells a set of so many odd numbers.
func commas(many int) string {
	var l []string
	for i := range many {
		l = append(l, fmt.Sprint(2*i+1))
	}
	return strings.Join(l, ",")
}

// 23.1: names are told as they stand, texts by their letters.
func TestTextsAndNames(t *testing.T) {
	says(t, api.CharsetUtf8, `HEADER "X-Y" "X-Y"`, field("X-Y", "x-y"))
	says(t, api.CharsetUtf8, "HEADER X-Y X-Y", field("X-Y", "x-y"))
	says(t, api.CharsetUtf8, `FROM "A\B"`, field("FROM", `a\b`))
	says(t, api.CharsetUtf8, "from Subject", field("FROM", "subject"))
	says(t, api.CharsetUtf8, "cc CC", field("CC", "cc"))
	says(t, api.CharsetUtf8, "BODY \"\xc3\x89T\xc3\xa9 \xe2\x84\xaa\xe1\xba\x9e\"", body("\xc3\xa9t\xc3\xa9 k\xc3\x9f"))
	says(t, api.CharsetUtf8, "BODY \"a\xffB\xc3\"", body("a\xef\xbf\xbdb\xef\xbf\xbd"))
	says(t, api.CharsetAscii, "TEXT \"A\xc3\xa9\"", text("a\xef\xbf\xbd\xef\xbf\xbd"))
	says(t, api.CharsetLatin1, "TEXT \"A\xc9\xa4\"", text("a\xc3\xa9\xc2\xa4"))
	says(t, api.CharsetLatin9, "TEXT \"A\xc9\xa4\xbe\"", text("a\xc3\xa9\xe2\x82\xac\xc3\xbf"))
	says(t, api.CharsetWindows, "TEXT \"A\xc9\x80\x81\x9f\"", text("a\xc3\xa9\xe2\x82\xac\xef\xbf\xbd\xc3\xbf"))
	says(t, api.CharsetLatin1, "SUBJECT \xc9", field("SUBJECT", "\xc3\xa9"))
	says(t, api.CharsetLatin1, "HEADER a \"\xc9\x00\r\n\"", field("a", "\xc3\xa9\x00\r\n"))
	k, errno := key.Parse(api.CharsetUtf8, api.Token{Kind: api.TokenAtom, Text: "TEXT"}, api.Token{Kind: api.TokenString, Text: `"A (`})
	if !same(k, text(`"a (`)) || errno != api.OK {
		t.Errorf("a text of a bracket: %v, %d", k, errno)
	}
	k, errno = key.Parse(api.CharsetUtf8, api.Token{Kind: api.TokenAtom, Text: "TEXT"}, api.Token{Kind: api.TokenAtom})
	if !same(k, text("")) || errno != api.OK {
		t.Errorf("a text of an atom without bytes: %v, %d", k, errno)
	}
}

// 23.1, P3: ErrCharset is ahead of all.
func TestCharsets(t *testing.T) {
	for c := range 256 {
		is := c > int(api.CharsetNone) && c < int(api.CharsetCount)
		for _, words := range []string{"ALL", `TEXT "x"`} {
			if is {
				says(t, api.Charset(c), words, sayings()[words])
			} else {
				refuses(t, "no charset", api.Charset(c), tokens(words), api.ErrCharset)
			}
		}
		want := api.ErrCode
		if !is {
			want = api.ErrCharset
		}
		for _, words := range []string{"", "NONE", "(", `TEXT`, `HEADER ":" "x"`} {
			refuses(t, "no words", api.Charset(c), tokens(words), want)
		}
		want = api.ErrDeep
		if !is {
			want = api.ErrCharset
		}
		refuses(t, "too deep", api.Charset(c), tokens(strings.Repeat("NOT ", api.MaxDepth)+"ALL"), want)
	}
}

// needs are the words that need something, each with tokens that are right, and what may stand in each one's place: t a text, n a name, d a day, N a number, s a set, k a key.
func needs() map[string]struct{ right, kinds string } {
	l := map[string]struct{ right, kinds string }{
		"HEADER": {"a b", "nt"}, "BODY": {"b", "t"}, "TEXT": {"b", "t"}, "LARGER": {"5", "N"}, "SMALLER": {"5", "N"}, "UID": {"5", "s"}, "NOT": {"SEEN", "k"}, "OR": {"SEEN ALL", "kk"},
	}
	for _, name := range []string{"BCC", "CC", "FROM", "SUBJECT", "TO"} {
		l[name] = struct{ right, kinds string }{"b", "t"}
	}
	for _, name := range []string{"BEFORE", "ON", "SINCE", "SENTBEFORE", "SENTON", "SENTSINCE"} {
		l[name] = struct{ right, kinds string }{"5-Feb-1996", "d"}
	}
	return l
}

// wrongFor are texts that are no atoms for what is needed; a text is never wrong.
func wrongFor(kind rune) []string {
	switch kind {
	case 'n':
		return []string{"", ":", "a:", "a b", "\xc3\xa9", "a\n", "\x7f"}
	case 'd':
		return []string{"", "5", "05-Feb-1996", "0-Feb-1996", "30-Feb-1996", "5-Feb-96", "5-Feb-0000", "32-Jan-1970", "5 Feb 1996", "5-Feb-1996 ", "ALL", "*", "5-Feb-19960"}
	case 'N':
		return []string{"", "*", "01", "00", "-1", "+1", "4294967296", "18446744073709551616", "1:2", "1,2", "1_0", "0x1", " 1", "a", "1.0"}
	case 's':
		return []string{"", "0", "01", "1,", ",1", "1:", ":1", "1:2:3", "4294967296", "a", "ALL", "1 2", commas(api.MaxSpans + 1)}
	case 'k':
		return []string{"", "0", "SEE", "SEENS", "UN", "UNALL", "UNRECENT", "UNOLD", "UNUNSEEN", "NOTALL", "KEYWORD", "1,", "01", "(", ")", "seen ", commas(api.MaxSpans + 1)}
	}
	return nil
}

// 23.1: each word without what it needs, and with something else in its place.
func TestWordsThatNeedSomething(t *testing.T) {
	for word, need := range needs() {
		for _, word := range []string{word, strings.ToLower(word)} {
			right := append(tokens(word), tokens(need.right)...)
			if _, errno := key.Parse(api.CharsetUtf8, right...); errno != api.OK {
				t.Errorf("%s: %d", told(right), errno)
			}
			for i, kind := range need.kinds {
				at := i + 1
				refuses(t, "ends too soon", api.CharsetUtf8, right[:at], api.ErrCode)
				refuses(t, "ends too soon within brackets", api.CharsetUtf8, slices.Concat(tokens("("), right[:at], tokens(")")), api.ErrCode)
				refuses(t, "a bracket in its place", api.CharsetUtf8, slices.Concat(right[:at], tokens("("), right[at+1:]), api.ErrCode)
				if kind != 'k' {
					refuses(t, "brackets around it", api.CharsetUtf8, slices.Concat(right[:at], tokens("("), right[at:at+1], tokens(")"), right[at+1:]), api.ErrCode)
				}
				for tokenKind := range 256 {
					l := slices.Clone(right)
					l[at].Kind = api.TokenKind(tokenKind)
					is := l[at].Kind == api.TokenAtom || l[at].Kind == api.TokenString && strings.ContainsRune("tnd", kind)
					if _, errno := key.Parse(api.CharsetUtf8, l...); is != (errno == api.OK) {
						t.Errorf("%s: %d", told(l), errno)
					}
					if !is {
						refuses(t, "another kind", api.CharsetUtf8, l, api.ErrCode)
					}
				}
				for _, wrong := range wrongFor(kind) {
					for _, tokenKind := range []api.TokenKind{api.TokenAtom, api.TokenString} {
						l := slices.Clone(right)
						l[at] = api.Token{Kind: tokenKind, Text: wrong}
						refuses(t, "a wrong text", api.CharsetUtf8, l, api.ErrCode)
					}
				}
			}
			refuses(t, "one bracket more", api.CharsetUtf8, slices.Concat(right, tokens(")")), api.ErrCode)
		}
	}
}

// 23.1: what can't begin a key.
func TestNoSearchsWords(t *testing.T) {
	for _, words := range []string{
		"", "()", "(())", "ALL ()", "() ALL", "NOT ()", "OR () ()", "OR ALL ()", "(", ")", "(ALL", "ALL)", "ALL (", "((ALL)", "(ALL))", ")ALL(", "(ALL))(", "NOT", "NOT NOT", "(NOT)", "(NOT) ALL", "OR", "OR ALL", "(OR ALL) ALL", "OR (ALL SEEN)", "OR NOT ALL", "OR OR ALL ALL", "NOT OR ALL",
		`"ALL"`, `"SEEN" ALL`, `ALL "x"`, `"1"`, `NOT "ALL"`, `FROM "a" "b"`, `HEADER "a" "b" "c"`, "NOT )", "(NOT ) ALL)", "OR ALL ) ALL",
		"0", "01", "1:2:3", "1,,2", "5-Feb-1996", "KEYWORD a", "UNKEYWORD a", "UIDS 1", "HEADERS a b", "LARGER", "AND ALL ALL", "ALLL", "AL", "UN SEEN", "UNNEW", "CHARSET UTF-8 ALL", "RETURN () ALL", "\xe1\xba\x9eEEN", "\xc5\xbfeen", commas(api.MaxSpans + 1),
	} {
		refuses(t, "no words", api.CharsetUtf8, tokens(words), api.ErrCode)
		refuses(t, "no words, within brackets", api.CharsetUtf8, tokens("("+words+")"), api.ErrCode)
		if words != "" {
			refuses(t, "no words behind some", api.CharsetUtf8, tokens("SEEN "+words), api.ErrCode)
		}
	}
	for kind := range 256 {
		if kind != int(api.TokenAtom) {
			refuses(t, "no atom", api.CharsetUtf8, []api.Token{{Kind: api.TokenKind(kind), Text: "ALL"}}, api.ErrCode)
			refuses(t, "no atom behind one", api.CharsetUtf8, []api.Token{{Kind: api.TokenAtom, Text: "ALL"}, {Kind: api.TokenKind(kind), Text: "ALL"}}, api.ErrCode)
		}
	}
	refuses(t, "nil", api.CharsetUtf8, nil, api.ErrCode)
	refuses(t, "empty", api.CharsetUtf8, []api.Token{}, api.ErrCode)
	refuses(t, "an atom without bytes", api.CharsetUtf8, []api.Token{{Kind: api.TokenAtom}}, api.ErrCode)
}

// 23.1: brackets are no levels of a key, but they are bounded, too.
func TestBrackets(t *testing.T) {
	around := func(many int, words string) []api.Token {
		return tokens(strings.Repeat("(", many) + words + strings.Repeat(")", many))
	}
	for _, many := range []int{1, 2, api.MaxDepth - 1, api.MaxDepth, api.MaxDepth + 1} {
		says(t, api.CharsetUtf8, told(around(many, "ALL")), every)
		says(t, api.CharsetUtf8, told(around(many, "ALL SEEN")), and(every, seen))
		says(t, api.CharsetUtf8, "OR "+told(around(many, "ALL"))+told(around(many, "SEEN")), or(every, seen))
		refuses(t, "not closed", api.CharsetUtf8, around(many, "ALL")[:2*many], api.ErrCode)
		refuses(t, "nothing within", api.CharsetUtf8, around(many, ""), api.ErrCode)
	}
	for _, many := range []int{api.MaxDepth + 2, api.MaxDepth + 3, 1000, 1 << 18} {
		refuses(t, "in one more", api.CharsetUtf8, around(many, "ALL"), api.ErrDeep)
		refuses(t, "in one more, behind NOT", api.CharsetUtf8, append(tokens("NOT"), around(many, "ALL")...), api.ErrDeep)
		refuses(t, "not closed", api.CharsetUtf8, around(many, "ALL")[:many], api.ErrDeep, api.ErrCode)
		refuses(t, "behind what is none", api.CharsetUtf8, append(tokens("NONE"), around(many, "ALL")...), api.ErrDeep, api.ErrCode)
		refuses(t, "with what is none", api.CharsetUtf8, around(many, "NONE"), api.ErrDeep, api.ErrCode)
	}
	side := strings.Repeat("(ALL) ", api.MaxDepth+9)
	says(t, api.CharsetUtf8, side, and(repeated(api.MaxDepth+9, every)...))
}

// 23.1, P3: what is too deep, or has too many keys, is told behind what is no search's words.
func TestDeepAndMany(t *testing.T) {
	times := func(many int, words string) string { return strings.Repeat(words+" ", many) }
	const d, m = api.MaxDepth, api.MaxKeys
	for words, want := range map[string]api.Key{
		times(d-1, "NOT") + "ALL":             deep(d, every),
		times(d-2, "NOT") + "UNSEEN":          deep(d, seen),
		times(d-3, "NOT") + "NEW":             deep(d-2, and(recent, not(seen))),
		times(d-2, "NOT") + "(ALL ALL)":       deep(d-1, and(every, every)),
		times(d-2, "NOT") + "OR ALL ALL":      deep(d-1, or(every, every)),
		times(d-2, "NOT") + "ALL SEEN":        and(deep(d-1, every), seen),
		times(m-1, "ALL"):                     and(repeated(m-1, every)...),
		times((m-4)/4, "NEW") + "ALL ALL ALL": and(append(repeated((m-4)/4, and(recent, not(seen))), every, every, every)...),
		times(m/2-1, "UNSEEN") + "ALL":        and(append(repeated(m/2-1, not(seen)), every)...),
	} {
		says(t, api.CharsetUtf8, words, want)
	}
	for _, words := range []string{
		times(d, "NOT") + "ALL", times(d-1, "NOT") + "UNSEEN", times(d-1, "NOT") + "OLD", times(d-2, "NOT") + "NEW", times(d-1, "NOT") + "(ALL ALL)", times(d-1, "NOT") + "OR ALL ALL", times(d-1, "NOT") + "ALL SEEN", "SEEN " + times(d-1, "NOT") + "ALL",
		times(d, "OR ALL") + "ALL", times(d, "OR") + times(d+1, "ALL"), times(d, "(ALL") + "ALL" + times(d, ")"), times(1<<16, "NOT") + "ALL", times(1<<16, "OR ALL") + "SEEN", times(1<<16, "OR") + times(1<<16+1, "SEEN"),
		times(m, "ALL"), "(" + times(m, "ALL") + ")", "NOT (" + times(m-1, "ALL") + ")", times((m-4)/4, "NEW") + "ALL ALL ALL ALL", times(m/2, "UNSEEN"), times(1<<16, "ALL"), times(1<<14, "NEW"),
	} {
		refuses(t, "too deep, or too many", api.CharsetUtf8, tokens(words), api.ErrDeep)
		refuses(t, "with something behind", api.CharsetUtf8, tokens(words+" ALL"), api.ErrDeep)
		refuses(t, "with a wrong word behind", api.CharsetUtf8, tokens(words+" NONE"), api.ErrCode)
		refuses(t, "with a bracket behind", api.CharsetUtf8, tokens(words+" )"), api.ErrCode)
		refuses(t, "with a bracket ahead", api.CharsetUtf8, tokens("( "+words), api.ErrCode)
		refuses(t, "with nothing in brackets behind", api.CharsetUtf8, tokens(words+" ()"), api.ErrCode)
		refuses(t, "with an atom without bytes behind", api.CharsetUtf8, append(tokens(words), api.Token{Kind: api.TokenAtom}), api.ErrCode)
		refuses(t, "with too little behind", api.CharsetUtf8, tokens(words+" OR ALL"), api.ErrCode)
		refuses(t, "with no name behind", api.CharsetUtf8, tokens(words+` HEADER ":" "x"`), api.ErrCode)
	}
	refuses(t, "NOT without end", api.CharsetUtf8, tokens(times(1<<16, "NOT")), api.ErrCode)
	refuses(t, "OR without end", api.CharsetUtf8, tokens(times(1<<16, "OR")+times(1<<16, "ALL")), api.ErrCode)
}

// 23.2
func TestWrite(t *testing.T) {
	for want, k := range map[string]api.Key{
		"ALL": every, "RECENT": recent, "NOT RECENT": not(recent), "NOT SEEN": not(seen), "( RECENT NOT SEEN )": and(recent, not(seen)),
		`BODY "a b"`: body("a b"), `TEXT ""`: text(""), `HEADER "X-y" "b"`: field("X-y", "b"), `HEADER "FROMM" ""`: field("FROMM", ""), `HEADER "header" "x"`: field("header", "x"),
		"LARGER 0": size(api.KeyLarger, 0), "SMALLER 4294967295": size(api.KeySmaller, math.MaxUint32), "LARGER 10": size(api.KeyLarger, 10),
		"UID 3:1,*,4:*": uids(api.Span{From: 3, To: 1}, api.Span{}, api.Span{From: 4}), "*:2,5": places(api.Span{To: 2}, api.Span{From: 5, To: 5}),
		"BEFORE 1-Jan-0001": day(api.KeyBefore, api.MinDay), "ON 31-Dec-9999": day(api.KeyOn, api.MaxDay), "SINCE 1-Jan-1970": day(api.KeySince, 0),
		"SENTBEFORE 5-Feb-1996": day(api.KeySentBefore, 9531), "SENTON 31-Dec-1969": day(api.KeySentOn, -1), "SENTSINCE 2-Jan-1970": day(api.KeySentSince, 1),
		"NOT NOT ALL": not(not(every)), "NOT ( ALL SEEN )": not(and(every, seen)), "( NOT ALL SEEN )": and(not(every), seen),
		"OR ALL SEEN": or(every, seen), "OR ALL OR SEEN RECENT": or(every, seen, recent), "OR ALL OR SEEN OR RECENT ALL": or(every, seen, recent, every),
		"OR OR ALL SEEN RECENT": or(or(every, seen), recent), "OR ALL OR OR SEEN RECENT SEEN": or(every, or(seen, recent), seen), "OR ( ALL SEEN ) NOT OR ALL SEEN": or(and(every, seen), not(or(every, seen))),
		"( ALL SEEN )": and(every, seen), "( ALL SEEN ALL )": and(every, seen, every), "( ( ALL SEEN ) ALL )": and(and(every, seen), every), "( OR ALL SEEN ( ALL SEEN ) )": and(or(every, seen), and(every, seen)),
		"NOT ( ANSWERED SEEN )": not(flag(api.FlagSeen | api.FlagAnswered)), "( ( ANSWERED DELETED DRAFT FLAGGED SEEN ) ALL )": and(flag(api.FlagAll), every), "OR ( DELETED DRAFT ) ALL": or(flag(api.FlagDraft|api.FlagDeleted), every),
		"BODY \"\xc3\xa9\"": body("\xc3\xa9"), `OR SEEN NOT FROM "a"`: or(seen, not(field("FROM", "a"))),
	} {
		if l, errno := key.Write(k); told(l) != want || errno != api.OK {
			t.Errorf("Write(%v) = %s, %d, not %s", k, told(l), errno, want)
		}
	}
	for _, name := range []string{"BCC", "CC", "FROM", "SUBJECT", "TO"} {
		for _, like := range []string{name, strings.ToLower(name), letters(name, 2, strings.ToLower)} {
			if l, errno := key.Write(field(like, "x")); told(l) != name+` "x"` || errno != api.OK {
				t.Errorf("Write of the field %s = %s, %d", like, told(l), errno)
			}
		}
		for _, other := range []string{name + "x", "x" + name, name[:len(name)-1]} {
			if l, errno := key.Write(field(other, "x")); told(l) != `HEADER "`+other+`" "x"` || errno != api.OK {
				t.Errorf("Write of the field %s = %s, %d", other, told(l), errno)
			}
		}
	}
}

// 23.2: any many flags.
func TestWriteFlags(t *testing.T) {
	for f := api.FlagSeen; f <= api.FlagAll; f++ {
		var l []string
		for _, one := range []struct {
			name string
			flag api.Flag
		}{{"ANSWERED", api.FlagAnswered}, {"DELETED", api.FlagDeleted}, {"DRAFT", api.FlagDraft}, {"FLAGGED", api.FlagFlagged}, {"SEEN", api.FlagSeen}} {
			if f&one.flag != 0 {
				l = append(l, one.name)
			}
		}
		want := strings.Join(l, " ")
		if len(l) > 1 {
			want = "( " + want + " )"
		}
		if got, errno := key.Write(flag(f)); told(got) != want || errno != api.OK {
			t.Errorf("Write of the flags %d = %s, %d, not %s", f, told(got), errno, want)
		}
	}
}

// 23.2: from the leaves on.
func TestPlain(t *testing.T) {
	a, b, c, d := text("a"), body("b"), field("c", "c"), seen
	for i, x := range []struct{ from, to api.Key }{
		{a, a}, {not(a), not(a)}, {not(not(a)), a}, {not(not(not(a))), not(a)}, {not(not(not(not(a)))), a}, {not(deep(9, a)), not(a)}, {deep(api.MaxDepth, a), not(a)}, {deep(api.MaxDepth-1, a), a},
		{and(a, b), and(a, b)}, {or(a, b), or(a, b)}, {and(a, or(b, c)), and(a, or(b, c))}, {or(and(a, b), c), or(and(a, b), c)},
		{and(and(a, b), c), and(a, b, c)}, {and(a, and(b, c)), and(a, b, c)}, {and(and(a, b), and(c, d)), and(a, b, c, d)}, {and(a, and(b, and(c, d))), and(a, b, c, d)}, {and(and(and(a, b), c), d), and(a, b, c, d)},
		{or(or(a, b), c), or(a, b, c)}, {or(a, or(b, c)), or(a, b, c)}, {or(or(a, b), or(c, d)), or(a, b, c, d)}, {or(a, or(b, or(c, d))), or(a, b, c, d)}, {or(a, or(b, c), d), or(a, b, c, d)},
		{and(a, or(b, and(c, d))), and(a, or(b, and(c, d)))}, {and(a, and(b, or(c, or(a, d)))), and(a, b, or(c, a, d))},
		{and(a, not(not(and(b, c)))), and(a, b, c)}, {or(not(not(or(a, b))), c), or(a, b, c)}, {not(not(and(and(a, b), c))), and(a, b, c)}, {not(and(not(not(a)), b)), not(and(a, b))},
		{not(not(or(not(not(or(a, b))), not(not(not(c)))))), or(a, b, not(c))}, {and(not(and(a, b)), c), and(not(and(a, b)), c)}, {or(not(or(a, b)), c), or(not(or(a, b)), c)}, {and(not(not(or(a, b))), c), and(or(a, b), c)},
		{and(a, a), and(a, a)}, {flag(api.FlagAll), flag(api.FlagAll)}, {text("ABC\xff"), text("ABC\xff")}, {uids(api.Span{From: 3, To: 1}), uids(api.Span{From: 3, To: 1})},
	} {
		if got, errno := key.Plain(x.from); !same(got, x.to) || errno != api.OK {
			t.Errorf("%d: Plain(%v) = %v, %d, not %v", i, x.from, got, errno, x.to)
		}
	}
}

// The example of the chapter.
func TestExample(t *testing.T) {
	says(t, api.CharsetUtf8, `OR SEEN NOT FROM "a"`, or(seen, not(field("FROM", "a"))))
}

// pick tells one of some.
func pick[T any](r *rand.Rand, l ...T) T {
	return l[r.Intn(len(l))]
}

// leaf makes a right key without kids.
func leaf(r *rand.Rand) api.Key {
	some := func() string {
		return pick(r, "", "a", "B", "\xc3\x89", "\xe2\x84\xaa x", "\xff", "a b", "all", "(", `\`, "3:1")
	}
	set := func() []api.Span {
		var l []api.Span
		for range 1 + r.Intn(4) {
			l = append(l, api.Span{From: uint32(r.Intn(4)), To: pick(r, 0, 1, 2, math.MaxUint32, uint32(r.Intn(9)))})
		}
		return l
	}
	switch r.Intn(9) {
	case 0:
		return flag(api.Flag(1 + r.Intn(int(api.FlagAll))))
	case 1:
		return field(pick(r, "from", "To", "CC", "x", "!", "SUBJECT", "bcC", "X-From"), some())
	case 2:
		return body(some())
	case 3:
		return text(some())
	case 4:
		return day(pick(r, days()...), pick(r, api.MinDay, api.MaxDay, r.Intn(20000)-10000))
	case 5:
		return size(pick(r, api.KeyLarger, api.KeySmaller), pick(r, 0, math.MaxUint32, r.Uint32()))
	case 6:
		return uids(set()...)
	case 7:
		return places(set()...)
	}
	return pick(r, every, recent, seen)
}

// tree makes a right key of at most so many levels.
func tree(r *rand.Rand, levels int) api.Key {
	kind := r.Intn(5)
	if levels < 2 || kind == 0 {
		return leaf(r)
	}
	if kind == 1 {
		return not(tree(r, levels-1))
	}
	var kids []api.Key
	for range 2 + r.Intn(3) {
		kids = append(kids, tree(r, levels-1))
	}
	return api.Key{Kind: pick(r, api.KeyOr, api.KeyAnd), Kids: kids}
}

// again tells what is parsed of what is written of k.
func again(k api.Key) api.Key {
	var kids []api.Key
	for _, kid := range k.Kids {
		kids = append(kids, again(kid))
	}
	k.Kids = kids
	switch k.Kind {
	case api.KeyFlag:
		for _, f := range []api.Flag{api.FlagAnswered, api.FlagDeleted, api.FlagDraft, api.FlagFlagged, api.FlagSeen} {
			if k.Flags&f != 0 {
				kids = append(kids, flag(f))
			}
		}
		if len(kids) > 1 {
			return and(kids...)
		}
	case api.KeyField, api.KeyBody, api.KeyText:
		if slices.Contains([]string{"BCC", "CC", "FROM", "SUBJECT", "TO"}, strings.ToUpper(k.Name)) {
			k.Name = strings.ToUpper(k.Name)
		}
		k.Text = strings.NewReplacer("B", "b", "\xc3\x89", "\xc3\xa9", "\xe2\x84\xaa", "k", "\xff", "\xef\xbf\xbd").Replace(k.Text)
	case api.KeyOr:
		last := kids[len(kids)-1]
		for _, kid := range slices.Backward(kids[:len(kids)-1]) {
			last = or(kid, last)
		}
		return last
	}
	return k
}

// 23.4: beyond the limits of a key what is written is told to be too deep.
func TestThereAndBack(t *testing.T) {
	r := rand.New(rand.NewSource(1))
	met := map[api.Errno]int{}
	see := func(k api.Key) {
		l, errno := key.Write(k)
		if errno != api.OK {
			t.Fatalf("Write(%v): %d", k, errno)
		}
		want := again(k)
		got, errno := key.Parse(api.CharsetUtf8, l...)
		met[errno]++
		if depth(want) > api.MaxDepth || count(want) > api.MaxKeys {
			refuses(t, "beyond", api.CharsetUtf8, l, api.ErrDeep)
			return
		}
		if !same(got, want) || errno != api.OK {
			t.Fatalf("%v: Parse(%s) = %v, %d, not %v", k, told(l), got, errno, want)
		}
		if twice, errno := key.Write(got); !slices.Equal(twice, l) || errno != api.OK {
			t.Fatalf("%v: written %s, and %s again, %d", k, told(l), told(twice), errno)
		}
	}
	for range 20000 {
		if k := tree(r, 1+r.Intn(6)); count(k) <= api.MaxKeys {
			see(k)
		}
	}
	for levels := range api.MaxDepth {
		see(deep(levels+1, every))
		see(deep(levels+1, flag(api.FlagAll)))
	}
	for many := 2; many < api.MaxKeys; many += 1 + many/9 {
		see(or(repeated(many, every)...))
		see(and(repeated(many, every)...))
	}
	see(or(repeated(api.MaxDepth, every)...))
	see(or(repeated(api.MaxDepth+1, every)...))
	see(and(repeated(api.MaxKeys/6, flag(api.FlagAll))...))
	see(and(repeated(api.MaxKeys/6+1, flag(api.FlagAll))...))
	if met[api.OK] < 5000 || met[api.ErrDeep] < 10 {
		t.Errorf("too little was tried: %v", met)
	}
}

// 23.4: of each right key that is as great as none of those beyond.
func TestThereAndBackOfEachKind(t *testing.T) {
	for what, k := range rightKeys() {
		l, _ := key.Write(k)
		got, errno := key.Parse(api.CharsetUtf8, l...)
		if errno == api.ErrDeep && count(k) == api.MaxKeys {
			continue // a KeyOr of very many kids, that stand each one level below the other
		}
		if twice, second := key.Write(got); !slices.Equal(twice, l) || errno != api.OK || second != api.OK {
			t.Errorf("%s: %d, %d, %.200s and %.200s", what, errno, second, told(l), told(twice))
		}
	}
}

// rewritten does one of the two rules somewhere, if one is left to do.
func rewritten(r *rand.Rand, k api.Key) (api.Key, bool) {
	k.Kids = slices.Clone(k.Kids)
	for _, i := range r.Perm(len(k.Kids)) {
		kid := k.Kids[i]
		if kid.Kind == k.Kind && r.Intn(2) == 0 {
			if k.Kind == api.KeyNot {
				return kid.Kids[0], true
			}
			k.Kids = slices.Concat(k.Kids[:i], kid.Kids, k.Kids[i+1:])
			return k, true
		}
		if better, is := rewritten(r, kid); is {
			k.Kids[i] = better
			return k, true
		}
	}
	return k, false
}

// isPlain tells whether nothing is left to do.
func isPlain(k api.Key) bool {
	for _, kid := range k.Kids {
		if kid.Kind == k.Kind || !isPlain(kid) {
			return false
		}
	}
	return true
}

// 23.2, 23.5
func TestPlainOfMany(t *testing.T) {
	r := rand.New(rand.NewSource(2))
	less := 0
	for range 10000 {
		k := tree(r, 1+r.Intn(6))
		if count(k) > api.MaxKeys {
			continue
		}
		got, errno := key.Plain(k)
		want := k
		for !isPlain(want) {
			want, _ = rewritten(r, want)
		}
		if !same(got, want) || errno != api.OK {
			t.Fatalf("Plain(%v) = %v, %d, not %v", k, got, errno, want)
		}
		twice, errno := key.Plain(got)
		if !same(twice, got) || errno != api.OK {
			t.Fatalf("Plain of Plain(%v) = %v, %d", k, twice, errno)
		}
		before, _ := key.Depth(k)
		behind, errno := key.Depth(got)
		if behind > before || errno != api.OK || count(got) > count(k) {
			t.Fatalf("Plain(%v) = %v: %d levels, and %d ahead", k, got, behind, before)
		}
		if behind < before {
			less++
		}
	}
	if less < 1000 {
		t.Errorf("only %d keys had less levels behind", less)
	}
}

// memory is where something stands.
type memory struct{ from, to uintptr }

// textMemory tells where a text stands.
func textMemory(s string) []memory {
	if s == "" {
		return nil
	}
	from := uintptr(unsafe.Pointer(unsafe.StringData(s)))
	return []memory{{from, from + uintptr(len(s))}}
}

// listMemory tells where a list stands, up to its capacity.
func listMemory[T any](l []T) []memory {
	if cap(l) == 0 {
		return nil
	}
	from := uintptr(unsafe.Pointer(unsafe.SliceData(l)))
	return []memory{{from, from + uintptr(cap(l))*unsafe.Sizeof(*new(T))}}
}

// keyMemory tells where all texts and lists of a key stand.
func keyMemory(k api.Key) []memory {
	l := slices.Concat(textMemory(k.Name), textMemory(k.Text), listMemory(k.Set), listMemory(k.Kids))
	for _, kid := range k.Kids {
		l = append(l, keyMemory(kid)...)
	}
	return l
}

// tokenMemory tells where tokens and their texts stand.
func tokenMemory(given []api.Token) []memory {
	l := listMemory(given)
	for _, t := range given {
		l = append(l, textMemory(t.Text)...)
	}
	return l
}

// apart sees that no two of these share memory.
func apart(t *testing.T, what string, all ...[]memory) {
	t.Helper()
	l := slices.Concat(all...)
	slices.SortFunc(l, func(a, b memory) int {
		if a.from < b.from {
			return -1
		}
		return 1
	})
	for i := 1; i < len(l); i++ {
		if l[i].from < l[i-1].to {
			t.Fatalf("%s: memory is shared", what)
		}
	}
}

// ownTokens copies tokens with their texts.
func ownTokens(l []api.Token) []api.Token {
	l = slices.Clone(l)
	for i := range l {
		l[i].Text = strings.Clone(l[i].Text)
	}
	return l
}

// some is a key that has something of everything.
func some() api.Key {
	return own(and(
		or(not(field("From", "abc")), field("X-Mail", "def"), body("ghi")),
		not(not(and(uids(api.Span{From: 1, To: 3}), places(api.Span{From: 2}, api.Span{})))),
		and(flag(api.FlagAll), day(api.KeySentOn, 5), size(api.KeyLarger, 7)), or(text("jkl"), or(every, recent)),
	))
}

// 23.3
func TestAnswersAreNewMemory(t *testing.T) {
	k := some()
	given := own(k)
	l, _ := key.Write(k)
	second, _ := key.Write(k)
	apart(t, "Write", keyMemory(k), tokenMemory(l), tokenMemory(second))
	p, _ := key.Plain(k)
	q, _ := key.Plain(k)
	apart(t, "Plain", keyMemory(k), keyMemory(p), keyMemory(q))
	leaves, _ := key.Plain(k.Kids[0].Kids[1])
	apart(t, "Plain of a leaf", keyMemory(k), keyMemory(leaves))
	if key.Check(k) != api.OK || !same(k, given) {
		t.Errorf("the key was changed: %v", k)
	}
	shared := body("shared")
	twice := and(shared, shared, or(shared, shared))
	p, _ = key.Plain(twice)
	apart(t, "Plain of a text in many places", keyMemory(shared), keyMemory(p))
	set := uids(api.Span{From: 1, To: 3})
	p, _ = key.Plain(and(set, set))
	apart(t, "Plain of a set in many places", keyMemory(set), keyMemory(p))

	words := ownTokens(tokens(`OR UNSEEN NEW FROM "abc" HEADER X-y "def" UID 1:3 4,5 NOT (ALL OLD text x) SENTON 5-Feb-1996 LARGER 5 cc x bcc x`))
	copied := ownTokens(words)
	a, errno := key.Parse(api.CharsetUtf8, words...)
	b, _ := key.Parse(api.CharsetUtf8, words...)
	if errno != api.OK || !slices.Equal(words, copied) {
		t.Fatalf("%s: %d", told(words), errno)
	}
	apart(t, "Parse", tokenMemory(words), keyMemory(a), keyMemory(b))
}

// 23.3: what is handed in may be changed behind a call.
func TestNothingIsKept(t *testing.T) {
	k := some()
	p, _ := key.Plain(k)
	want := own(p)
	k.Kids[0].Kids[0].Kind, k.Kids[1], k.Kids[2].Kids[0].Flags = api.KeyOr, every, 0
	k.Kids[3].Kids[1].Kids[0] = seen
	if !same(p, want) {
		t.Errorf("Plain keeps what it was handed")
	}
	k = uids(api.Span{From: 4, To: 9})
	p, _ = key.Plain(k)
	k.Set[0].To = 5
	if !same(p, uids(api.Span{From: 4, To: 9})) {
		t.Errorf("Plain keeps a set")
	}
	l := tokens("ALL SEEN")
	a, _ := key.Parse(api.CharsetUtf8, l...)
	l[0].Text = "OLD"
	if !same(a, and(every, seen)) {
		t.Errorf("Parse keeps what it was handed")
	}
	a.Kids[0] = recent
	if b, _ := key.Parse(api.CharsetUtf8, tokens("NEW")...); !same(b, and(recent, not(seen))) {
		t.Errorf("an answer that was changed is to be seen in the next one: %v", b)
	}
}

// model reads a search's words by the chapter's rules, key by key.
type model struct {
	left  []api.Token
	known map[string]api.Key
}

// keys reads one or more, up to a bracket that ends them, or to the end.
func (m *model) keys() (api.Key, bool) {
	var l []api.Key
	for len(m.left) > 0 && m.left[0].Kind != api.TokenClose {
		k, is := m.key()
		if !is {
			return k, false
		}
		l = append(l, k)
	}
	switch len(l) {
	case 0:
		return api.Key{}, false
	case 1:
		return l[0], true
	}
	return and(l...), true
}

// key reads one. What needs a text, a day and so on is known to a table of sayings, by what it looks like.
func (m *model) key() (api.Key, bool) {
	if len(m.left) == 0 {
		return api.Key{}, false
	}
	t := m.left[0]
	m.left = m.left[1:]
	switch {
	case t.Kind == api.TokenOpen:
		k, is := m.keys()
		if !is || len(m.left) == 0 {
			return k, false
		}
		m.left = m.left[1:]
		return k, true
	case t.Kind != api.TokenAtom:
		return api.Key{}, false
	}
	switch word := strings.ToUpper(t.Text); word {
	case "NOT":
		k, is := m.key()
		return not(k), is
	case "OR":
		a, is := m.key()
		if !is {
			return a, false
		}
		b, is := m.key()
		return or(a, b), is
	case "FROM", "BODY", "TEXT", "HEADER", "SENTON", "LARGER", "UID":
		return m.needy(word)
	default:
		k, is := m.known[word]
		return k, is && !strings.Contains(word, " ")
	}
}

// needy reads what a word needs, as long as it is one of few texts.
func (m *model) needy(word string) (api.Key, bool) {
	next := func(kinds string) string {
		if len(m.left) == 0 || m.left[0].Kind != api.TokenAtom && (m.left[0].Kind != api.TokenString || kinds == "atom") {
			return "none"
		}
		t := m.left[0].Text
		m.left = m.left[1:]
		return t
	}
	switch word {
	case "LARGER":
		t := next("atom")
		return size(api.KeyLarger, 1), t == "1"
	case "UID":
		t := next("atom")
		return map[string]api.Key{"1": uids(api.Span{From: 1, To: 1}), "*": uids(api.Span{})}[t], t == "1" || t == "*"
	case "SENTON":
		t := next("any")
		return day(api.KeySentOn, 9531), t == "5-Feb-1996"
	}
	k := map[string]api.Key{"FROM": field("FROM", ""), "BODY": body(""), "TEXT": text(""), "HEADER": field("", "")}[word]
	if word == "HEADER" {
		if k.Name = next("any"); k.Name == "none" || strings.ContainsAny(k.Name, ": ") || k.Name == "" {
			return k, false
		}
	}
	k.Text = next("any")
	is := k.Text != "none"
	k.Text = strings.ToLower(k.Text)
	return k, is
}

// 23.1, P1, P4: any tokens are answered as by the model.
func TestAnyTokens(t *testing.T) {
	ahead := runtime.NumGoroutine()
	r := rand.New(rand.NewSource(3))
	met := map[api.Errno]int{}
	words := strings.Fields("NOT NOT OR OR all Seen UNSEEN unDraft NEW old Recent FROM body TEXT HEADER SENTON larger UID 1 1 * 5-Feb-1996 x A: NONO ( ( ) ) ) \"a\" \"B\" \"1\" \"\"")
	known := sayings()
	for range 200000 {
		var l []api.Token
		for range 1 + r.Intn(1+r.Intn(12)) {
			l = append(l, tokens(pick(r, words...))...)
		}
		m := model{l, known}
		want, is := m.keys()
		is = is && len(m.left) == 0
		got, errno := key.Parse(api.CharsetUtf8, l...)
		met[errno]++
		if is && (!same(got, want) || errno != api.OK) || !is && (!same(got, api.Key{}) || errno != api.ErrCode) {
			t.Fatalf("Parse(%s) = %v, %d, not %v, %t", told(l), got, errno, want, is)
		}
	}
	if met[api.OK] < 20000 || met[api.ErrCode] < 20000 {
		t.Errorf("too little was tried: %v", met)
	}
	if behind := runtime.NumGoroutine(); behind > ahead { // fewer, if that of an earlier test was just ending
		t.Errorf("%d goroutines ahead, %d behind", ahead, behind)
	}
}

// P1: any keys are answered, and Check tells which of them are right.
func TestAnyKeys(t *testing.T) {
	r := rand.New(rand.NewSource(4))
	met := map[api.Errno]int{}
	var anyKey func(levels int) api.Key
	anyKey = func(levels int) api.Key {
		k := tree(r, 1+r.Intn(3))
		for range r.Intn(3) {
			k = withField(k, pick(r, []rune("fntdNsk     ")...))
		}
		if r.Intn(9) == 0 {
			k.Kind = api.KeyKind(r.Intn(256))
		}
		if levels > 1 && r.Intn(3) == 0 {
			k.Kids = append(k.Kids, anyKey(levels-1))
		}
		return k
	}
	for range 30000 {
		k := anyKey(4)
		errno := key.Check(k)
		met[errno]++
		if errno != api.OK && errno != api.ErrForm {
			t.Fatalf("Check(%v): %d", k, errno)
		}
		_, a := key.Depth(k)
		_, b := key.Write(k)
		_, c := key.Plain(k)
		if a != errno || b != errno || c != errno {
			t.Fatalf("%v: %d, %d, %d, %d", k, errno, a, b, c)
		}
	}
	if met[api.OK] < 1000 || met[api.ErrForm] < 1000 {
		t.Errorf("too little was tried: %v", met)
	}
}
