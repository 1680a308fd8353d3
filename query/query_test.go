package query_test

import (
	"cmp"
	"fmt"
	"math"
	"math/rand"
	"reflect"
	"runtime"
	"slices"
	"strings"
	"testing"
	"unsafe"

	"missive/api"
	"missive/box"
	"missive/disk"
	"missive/index"
	"missive/key"
	"missive/mail"
	"missive/plan"
	"missive/query"
	"missive/sat"
	"missive/store"
)

// The signatures that the chapter lists.
var (
	_ func(api.Fs, api.Key) ([]uint32, int, api.Errno)         = query.Run
	_ func(api.View, api.Key) ([]uint32, int, api.Errno)       = query.View
	_ func(api.Fs, api.Key) ([]api.Token, int, int, api.Errno) = query.Explain
)

// Short ways to make keys by hand.
var (
	every  = api.Key{Kind: api.KeyAll}
	recent = api.Key{Kind: api.KeyRecent}
	seen   = flag(api.FlagSeen)
)

func flag(f api.Flag) api.Key                 { return api.Key{Kind: api.KeyFlag, Flags: f} }
func field(name, text string) api.Key         { return api.Key{Kind: api.KeyField, Name: name, Text: text} }
func body(s string) api.Key                   { return api.Key{Kind: api.KeyBody, Text: s} }
func text(s string) api.Key                   { return api.Key{Kind: api.KeyText, Text: s} }
func day(kind api.KeyKind, d int) api.Key     { return api.Key{Kind: kind, Day: d} }
func size(kind api.KeyKind, n uint32) api.Key { return api.Key{Kind: kind, N: n} }
func uids(l ...uint32) api.Key                { return api.Key{Kind: api.KeyUids, Set: spans(l...)} }
func places(l ...uint32) api.Key              { return api.Key{Kind: api.KeyPlaces, Set: spans(l...)} }
func not(k api.Key) api.Key                   { return api.Key{Kind: api.KeyNot, Kids: []api.Key{k}} }
func or(l ...api.Key) api.Key                 { return api.Key{Kind: api.KeyOr, Kids: l} }
func and(l ...api.Key) api.Key                { return api.Key{Kind: api.KeyAnd, Kids: l} }

// spans are of two numbers each.
func spans(ends ...uint32) []api.Span {
	var l []api.Span
	for i := 0; i < len(ends); i += 2 {
		l = append(l, api.Span{From: ends[i], To: ends[i+1]})
	}
	return l
}

// is tells numbers shortly.
func is(l ...uint32) []uint32 { return l }

// feb5 is the day of "5 Feb 96".
const feb5 = 9531

// mails are those that come, one behind the other, from 1 on.
func mails() []api.Change {
	l := []api.Change{
		{Flags: api.FlagSeen, Inner: api.Time{Day: 10}, Raw: "Subject: Hello\nDate: 5 Feb 96\n\nWorld"},
		{Flags: api.FlagSeen | api.FlagDraft, Inner: api.Time{Day: 11}, Raw: "Subject: other\nDate: 6 Feb 96\nTo: Anna\n\nHELLO abcd bcde"},
		{Inner: api.Time{Day: 10}, Raw: "\nsay hello to the world"},
		{Flags: api.FlagAll, Inner: api.Time{Day: 12}, Raw: "Date: no day\nContent-Type: text/plain; charset=utf-8\n\nSTRASSE \xc3\x89t\xc3\x89"},
		{Inner: api.Time{Day: -1}, Raw: ""},
		{Flags: api.FlagFlagged, Inner: api.Time{Day: 11}, Raw: "Date: 4 Feb 1996\nSubject: fellow yellow ello\n\nhel ell llo abcde"},
	}
	for i := range l {
		l[i].Kind = api.ChangeAppend
	}
	return l
}

// must tells d, if nothing went wrong.
func must(d api.Fs, errno api.Errno) api.Fs {
	if errno != api.OK {
		panic(errno)
	}
	return d
}

// made tells a disk with a box without mails.
func made() api.Fs {
	return must(store.Make(must(disk.Make(api.MaxRoom)), 9))
}

// done tells d with changes done.
func done(d api.Fs, l ...api.Change) api.Fs {
	for _, c := range l {
		next, _, errno := store.Do(d, c)
		d = must(next, errno)
	}
	return d
}

// gone tells the changes by which mails go.
func gone(l ...uint32) []api.Change {
	return []api.Change{{Kind: api.ChangeAdd, Uids: l, Flags: api.FlagDeleted}, {Kind: api.ChangeExpunge, Uids: l}}
}

// flushed tells d, flushed.
func flushed(d api.Fs) api.Fs {
	next, _, errno := index.Flush(d)
	return must(next, errno)
}

// merged tells d with two segments merged.
func merged(d api.Fs) api.Fs {
	next, _, errno := index.Merge(d, 2)
	return must(next, errno)
}

// disks have the mails 1, 2, 3, 4 and 6 of mails, that are in segments, in the log alone, or some in each; 5 has gone.
func disks() map[string]api.Fs {
	l := mails()
	log := done(done(made(), l...), gone(5)...)
	each := made()
	for _, c := range l {
		each = flushed(done(each, c))
	}
	some := done(flushed(done(made(), l[:2]...)), l[2:5]...)
	some = done(done(flushed(some), l[5]), gone(5)...)
	return map[string]api.Fs{
		"all in the log": log, "all in one segment": flushed(log), "each in one": flushed(done(each, gone(5)...)), "each in one, one dead": done(each, gone(5)...), "some in each, one dead": some,
		"flushed, and dead": flushed(some), "merged": merged(flushed(some)), "merged, and dead": done(merged(each), gone(5)...), "collected": must(index.Collect(merged(done(each, gone(5)...)))),
		"behind a crash": must(store.Recover(must(disk.Crash(some)))),
	}
}

// finding is a key, what it finds in each of disks, and its bounds.
type finding struct {
	key                  api.Key
	finds, first, second []uint32
}

// all are the numbers of the mails of disks.
var all = is(1, 2, 3, 4, 6)

// exact is found by its bounds alone.
func exact(k api.Key, l ...uint32) finding { return finding{k, l, l, l} }

// findings has each kind.
func findings() map[string]finding {
	hello := is(1, 2, 3, 6) // what has hel, ell and llo
	return map[string]finding{
		"all": exact(every, all...), "not all": exact(not(every)), "seen": exact(seen, 1, 2, 4), "not seen": exact(not(seen), 3, 6), "recent": exact(recent, all...), "before": exact(day(api.KeyBefore, 11), 1, 3), "on": exact(day(api.KeyOn, 11), 2, 6), "since": exact(day(api.KeySince, 11), 2, 4, 6),
		"sent before": exact(day(api.KeySentBefore, feb5), 6), "sent on": exact(day(api.KeySentOn, feb5), 1), "sent since": exact(day(api.KeySentSince, feb5), 1, 2), "larger": exact(size(api.KeyLarger, 23), 1, 2, 4, 6), "smaller": exact(size(api.KeySmaller, 24), 3), "uids": exact(uids(3, 5, 0, 0), 3, 4, 6), "places": exact(places(5, 4, 1, 1), 1, 4, 6),
		"or without texts": exact(or(uids(1, 1), seen, flag(api.FlagFlagged)), 1, 2, 4, 6), "and without texts": exact(and(seen, day(api.KeyOn, 11)), 2),

		"a text": {text("hello"), is(1, 2, 3), nil, hello}, "a body": {body("hello"), is(2, 3), nil, hello}, "a field": {field("subject", "hello"), is(1), nil, hello}, "a field that there is not": {field("cc", "hello"), nil, nil, hello}, "a field's line": {text("subject: o"), is(2), nil, is(2)},
		"all parts, and not the text": {body("abcde"), is(6), nil, is(2, 6)}, "what nobody has": {text("zzz"), nil, nil, nil}, "one letter": {text("z"), nil, nil, all}, "two letters": {text("ab"), is(2, 6), nil, all}, "no letters": {text(""), all, nil, all}, "no letters of a field": {field("Subject", ""), is(1, 2, 6), nil, all},
		"what is not folded": {body("HeLLo"), is(2, 3), nil, hello}, "letters that fold to other ones": {text("\xc5\xbftra\xc5\xbf\xc5\xbfe"), is(4), nil, is(4)}, "letters of two bytes": {body("\xc3\x89T\xc3\x89"), is(4), nil, is(4)}, "what is no UTF-8": {text("\xff"), nil, nil, all},
		"not a text": {not(text("hello")), is(4, 6), is(4), all}, "not not a text": {not(not(text("hello"))), is(1, 2, 3), nil, hello}, "not not not a text": {not(not(not(text("hello")))), is(4, 6), is(4), all},
		"or": {or(body("hello"), seen), is(1, 2, 3, 4), is(1, 2, 4), all}, "or of two texts": {or(field("subject", "hello"), body("strasse")), is(1, 4), nil, all}, "or of all": {or(text("hello"), every), all, all, all},
		"and": {and(text("hello"), not(seen)), is(3), nil, is(3, 6)}, "and of two texts": {and(text("hello"), text("world")), is(1, 3), nil, is(1, 3)}, "and of not a text": {and(not(body("hello")), seen), is(1, 4), is(4), is(1, 2, 4)}, "and of none": {and(text("hello"), not(every)), nil, nil, nil},
		"or in or, and in and": {or(or(body("strasse"), uids(1, 1)), and(and(text("hello"), seen), not(not(every)))), is(1, 2, 4), is(1), is(1, 2, 4)}, "a text and not that": {and(body("hello"), not(body("hello"))), nil, nil, hello}, "a text or not that": {or(body("hello"), not(body("hello"))), all, is(4), all},
	}
}

// runs sees what Run, View and Explain tell of a disk.
func runs(t *testing.T, what string, d api.Fs, f finding) {
	t.Helper()
	cost := len(f.second) - len(f.first)
	if got, n, errno := query.Run(d, f.key); !slices.Equal(got, f.finds) || n != cost || errno != api.OK {
		t.Errorf("%s: Run = %v, %d, %d, not %v, %d", what, got, n, errno, f.finds, cost)
	}
	v, errno := index.Load(d)
	if errno != api.OK {
		t.Fatalf("%s: Load: %d", what, errno)
	}
	if got, n, errno := query.View(v, f.key); !slices.Equal(got, f.finds) || n != cost || errno != api.OK {
		t.Errorf("%s: View = %v, %d, %d, not %v, %d", what, got, n, errno, f.finds, cost)
	}
	plain, _ := key.Plain(f.key)
	tokens, _ := key.Write(plain)
	if got, first, second, errno := query.Explain(d, f.key); !slices.Equal(got, tokens) || first != len(f.first) || second != len(f.second) || errno != api.OK {
		t.Errorf("%s: Explain = %v, %d, %d, %d, not %v, %d, %d", what, got, first, second, errno, tokens, len(f.first), len(f.second))
	}
	if found, errno := sat.Search(f.key, v.Box); !slices.Equal(found, f.finds) || errno != api.OK {
		t.Errorf("%s: Search = %v, %d, not %v", what, found, errno, f.finds)
	}
	if n, errno := plan.Cost(f.key, v); n != cost || errno != api.OK {
		t.Errorf("%s: Cost = %d, %d, not %d", what, n, errno, cost)
	}
}

// 26.1, 26.2, 26.4, 26.5
func TestRunViewAndExplain(t *testing.T) {
	met := map[api.KeyKind]bool{}
	bare := made()
	empty := flushed(done(flushed(done(bare, mails()...)), gone(1, 2, 3, 4, 5, 6)...))
	for what, f := range findings() {
		if errno := key.Check(f.key); errno != api.OK {
			t.Fatalf("%s is not right: %d", what, errno)
		}
		met[f.key.Kind] = true
		for where, d := range disks() {
			runs(t, what+", "+where, d, f)
		}
		runs(t, what+", no mails", bare, finding{key: f.key})
		runs(t, what+", no mails any more", empty, finding{key: f.key})
	}
	for kind := api.KeyAll; kind < api.KeyCount; kind++ {
		if !met[kind] {
			t.Errorf("no key of kind %d was asked", kind)
		}
	}
}

// atom, str, open and shut make tokens.
func atom(s string) api.Token { return api.Token{Kind: api.TokenAtom, Text: s} }
func str(s string) api.Token  { return api.Token{Kind: api.TokenString, Text: s} }

var (
	open = api.Token{Kind: api.TokenOpen, Text: "("}
	shut = api.Token{Kind: api.TokenClose, Text: ")"}
)

// 26.2: the tokens are the plain key's
func TestExplain(t *testing.T) {
	d := disks()["some in each, one dead"]
	for i, x := range []struct {
		key           api.Key
		tokens        []api.Token
		first, second int
	}{
		{every, []api.Token{atom("ALL")}, 5, 5},
		{body("hello"), []api.Token{atom("BODY"), str("hello")}, 0, 4},
		{not(not(body("hello"))), []api.Token{atom("BODY"), str("hello")}, 0, 4},
		{not(not(not(seen))), []api.Token{atom("NOT"), atom("SEEN")}, 2, 2},
		{field("Subject", "zzz"), []api.Token{atom("SUBJECT"), str("zzz")}, 0, 0},
		{field("X-y", "a"), []api.Token{atom("HEADER"), str("X-y"), str("a")}, 0, 5},
		{not(text("hello")), []api.Token{atom("NOT"), atom("TEXT"), str("hello")}, 1, 5},
		{and(and(seen, recent), every), []api.Token{open, atom("SEEN"), atom("RECENT"), atom("ALL"), shut}, 3, 3},
		{or(seen, or(text("strasse"), uids(1, 3))), []api.Token{atom("OR"), atom("SEEN"), atom("OR"), atom("TEXT"), str("strasse"), atom("UID"), atom("1:3")}, 4, 4},
		{or(or(uids(6, 6), text("strasse")), body("world")), []api.Token{atom("OR"), atom("UID"), atom("6"), atom("OR"), atom("TEXT"), str("strasse"), atom("BODY"), str("world")}, 1, 4},
	} {
		if tokens, first, second, errno := query.Explain(d, x.key); !slices.Equal(tokens, x.tokens) || first != x.first || second != x.second || errno != api.OK {
			t.Errorf("%d: Explain = %v, %d, %d, %d, not %v, %d, %d", i, tokens, first, second, errno, x.tokens, x.first, x.second)
		}
	}
}

// viewed sees what View tells of a view, and that as many are looked at as it costs.
func viewed(t *testing.T, what string, v api.View, k api.Key, looked int, want ...uint32) {
	t.Helper()
	if got, n, errno := query.View(v, k); !slices.Equal(got, want) || n != looked || errno != api.OK {
		t.Errorf("%s: View = %v, %d, %d, not %v, %d", what, got, n, errno, want, looked)
	}
	if n, errno := plan.Cost(k, v); n != looked || errno != api.OK {
		t.Errorf("%s: Cost = %d, %d, not %d", what, n, errno, looked)
	}
}

// byHand is a view whose items are not those of its mails.
func byHand() api.View {
	raw := "Subject: mine\nDate: 5 Feb 96\n\nthe mail's text"
	return api.View{
		Box: api.Box{Validity: 1, Next: 9, Messages: []api.Message{{Uid: 2, Flags: api.FlagSeen, Inner: api.Time{Day: 10}, Raw: raw}, {Uid: 5, Inner: api.Time{Day: 10}, Raw: raw}, {Uid: 7, Inner: api.Time{Day: 10}, Raw: raw}}},
		Segs: [][]api.Item{
			{{Uid: 2, Inner: 20, Doc: api.Doc{Size: 3, Names: []string{"SUBJECT", "left"}, Values: []string{"hello item"}, Body: []string{"an item's text", "ends here"}}}, {Uid: 3, Doc: api.Doc{Body: []string{"hello item"}}}},
			{{Uid: 2, Inner: 30, Doc: api.Doc{Body: []string{"a second item"}}}, {Uid: 5, Inner: 10, Doc: api.Doc{Size: -7, Day: feb5, Body: []string{"hel ell llo item"}}}},
		},
		Fresh: []api.Item{{Uid: 7, Inner: math.MaxInt, Doc: api.Doc{Size: 4000, Day: feb5, Dated: true, Names: []string{"x"}, Values: []string{"hello"}, Body: []string{"Great ITEM", "b\xffad item"}}}},
		Dead:  is(3),
	}
}

// 26.1: View goes by the items alone
func TestViewByItems(t *testing.T) {
	v := byHand()
	viewed(t, "the mail's text", v, text("mail"), 0)
	viewed(t, "the mail's two letters", v, body("'s"), 3, 2)
	viewed(t, "the mail's field", v, field("subject", "mine"), 0)
	viewed(t, "not the mail's text", v, not(text("mail")), 0, 2, 5, 7)
	viewed(t, "an item's text", v, text("hello"), 3, 2, 7)
	viewed(t, "an item's field", v, field("Subject", "HELLO"), 3, 2)
	viewed(t, "a name without a value", v, field("left", ""), 3)
	viewed(t, "an item's body", v, body("item"), 3, 2, 5, 7)
	viewed(t, "an item's second body", v, body("ends here"), 1, 2)
	viewed(t, "across two bodies", v, body("textends"), 0)
	viewed(t, "what is not folded in an item", v, body("great"), 0)
	viewed(t, "a dead item's text", v, body("hello item"), 2) // 2 has it in a field, 5 its parts alone
	viewed(t, "the second item of a number", v, body("second"), 0)
	viewed(t, "not an item's text", v, not(text("hello")), 3, 5)
	viewed(t, "the item's day, and a text", v, and(day(api.KeyOn, 20), body("item")), 1, 2)
	viewed(t, "the mail's day, and a text", v, and(day(api.KeyOn, 10), body("item")), 1, 5)
	viewed(t, "the second item's day", v, and(day(api.KeyOn, 30), body("item")), 0)
	viewed(t, "a day behind all, or a text", v, or(day(api.KeySince, api.MaxDay), text("hello")), 2, 2, 7)
	viewed(t, "the item's Date, and a text", v, and(day(api.KeySentOn, feb5), body("item")), 1, 7)
	viewed(t, "not the item's Date, and a text", v, and(not(day(api.KeySentSince, api.MinDay)), body("item")), 2, 2, 5)
	viewed(t, "the item's size, and a text", v, and(size(api.KeySmaller, 0), body("item")), 1, 5)
	viewed(t, "larger, or a text", v, or(size(api.KeyLarger, 3), field("subject", "hello")), 2, 2, 7)
	viewed(t, "the item's size", v, size(api.KeyLarger, 2), 0, 2, 7)
	viewed(t, "the box's flags, and a text", v, and(seen, body("item")), 1, 2)
	viewed(t, "the box's places, and a text", v, and(places(0, 2), body("item")), 2, 5, 7)
	viewed(t, "the box's numbers, and no text", v, and(uids(2, 6), not(body("text"))), 1, 5)
	viewed(t, "the box's recent ones, and a text", v, and(recent, not(text("hello"))), 3, 5)
}

// wrongViews are views that are not right.
func wrongViews() map[string]api.View {
	l := map[string]api.View{"zero": {}}
	for what, do := range map[string]func(v *api.View){
		"an item too few": func(v *api.View) { v.Fresh = nil }, "an item too many": func(v *api.View) { v.Fresh = append(v.Fresh, api.Item{Uid: 8}) }, "one of another mail": func(v *api.View) { v.Fresh[0].Uid = 6 }, "a mail that is dead": func(v *api.View) { v.Dead = is(3, 5) }, "a dead one that is not told": func(v *api.View) { v.Dead = nil },
		"no Validity": func(v *api.View) { v.Box.Validity = 0 }, "Next at a number": func(v *api.View) { v.Box.Next = 7 }, "mails that fall": func(v *api.View) { slices.Reverse(v.Box.Messages) }, "no time": func(v *api.View) { v.Box.Messages[0].Inner.Zone = 6000 },
	} {
		v := byHand()
		do(&v)
		l[what] = v
	}
	return l
}

// wrongKeys are keys that are not right, in some ways.
func wrongKeys() map[string]api.Key {
	deep := every
	for range api.MaxDepth {
		deep = not(deep)
	}
	self := make([]api.Key, 2)
	self[0], self[1] = api.Key{Kind: api.KeyOr, Kids: self}, every
	return map[string]api.Key{
		"zero": {}, "KeyCount": {Kind: api.KeyCount}, "no flag": flag(0), "no name": field("", "abc"), "no set": uids(), "a day too late": day(api.KeyOn, api.MaxDay+1), "not of none": {Kind: api.KeyNot}, "or of one": or(every), "a wrong kid's kid": and(every, not(body("abc")), not(uids())), "all with a text": {Kind: api.KeyAll, Text: "a"},
		"too deep, though it would be plain": deep, "too many": and(slices.Repeat([]api.Key{every}, api.MaxKeys)...), "within itself": self[0],
	}
}

// refused sees that a disk, and a key, are answered by an error alone.
func refused(t *testing.T, what string, d api.Fs, k api.Key, want api.Errno) {
	t.Helper()
	if got, n, errno := query.Run(d, k); len(got) != 0 || n != 0 || errno != want {
		t.Errorf("%s: Run = %v, %d, %d, not %d alone", what, got, n, errno, want)
	}
	if got, first, second, errno := query.Explain(d, k); len(got) != 0 || first != 0 || second != 0 || errno != want {
		t.Errorf("%s: Explain = %v, %d, %d, %d, not %d alone", what, got, first, second, errno, want)
	}
}

// file is one all of whose bytes are synced.
func file(name, data string) api.File {
	return api.File{Name: name, Data: data, Synced: len(data)}
}

// with puts a file on a disk, in the place of another one of its name; without takes it away.
func with(d api.Fs, f api.File) api.Fs {
	d = without(d, f.Name)
	d.Files = append(d.Files, f)
	slices.SortFunc(d.Files, func(a, b api.File) int { return cmp.Compare(a.Name, b.Name) })
	return d
}

func without(d api.Fs, name string) api.Fs {
	d.Files = slices.DeleteFunc(slices.Clone(d.Files), func(f api.File) bool { return f.Name == name })
	return d
}

// wrongDisks are disks that are not read, and why.
func wrongDisks() map[string]struct {
	disk api.Fs
	want api.Errno
} {
	good := disks()["some in each, one dead"]
	down, fuse := good, good
	down.Down, fuse.Fuse = true, -2
	segment := "seg-0000000001"
	var torn string
	for _, f := range good.Files {
		if f.Name == "box" {
			torn = f.Data + "x"
		}
	}
	return map[string]struct {
		disk api.Fs
		want api.Errno
	}{
		"zero": {api.Fs{}, api.ErrNone}, "no files": {must(disk.Make(9)), api.ErrNone}, "no box": {without(good, "box"), api.ErrNone}, "not right": {api.Fs{Room: -1}, api.ErrForm}, "no fuse": {fuse, api.ErrForm}, "no power": {down, api.ErrPower},
		"a box that is no log": {with(good, file("box", "x")), api.ErrCode}, "a torn box": {with(good, file("box", torn)), api.ErrState}, "a manifest that is none": {with(good, file("index", "x")), api.ErrCode}, "no segment": {without(good, segment), api.ErrNone}, "a segment that is none": {with(good, file(segment, "")), api.ErrCode},
		"no manifest, though there are segments": {with(without(good, "index"), file("box", "")), api.ErrCode},
		"a segment of another box":               {with(good, file(segment, good.Files[2].Data)), api.ErrCode},
	}
}

// 26.1, 26.2, P2, P3: an error of the key is ahead of one of the disk
func TestWhatIsNotRight(t *testing.T) {
	for what, x := range wrongDisks() {
		for _, k := range []api.Key{every, body("hello"), not(text("a"))} {
			refused(t, what, x.disk, k, x.want)
		}
		refused(t, what+", and a wrong key", x.disk, api.Key{}, api.ErrForm)
	}
	good := disks()["some in each, one dead"]
	for what, k := range wrongKeys() {
		refused(t, what, good, k, api.ErrForm)
		refused(t, what+", and no power", wrongDisks()["no power"].disk, k, api.ErrForm)
		if got, n, errno := query.View(byHand(), k); len(got) != 0 || n != 0 || errno != api.ErrForm {
			t.Errorf("%s: View = %v, %d, %d, not ErrForm alone", what, got, n, errno)
		}
	}
	for what, v := range wrongViews() {
		for _, k := range []api.Key{every, body("hello"), not(text("a")), {}, and()} {
			if got, n, errno := query.View(v, k); len(got) != 0 || n != 0 || errno != api.ErrForm {
				t.Errorf("%s: View = %v, %d, %d, not ErrForm alone", what, got, n, errno)
			}
		}
	}
}

// 26.1: as many mails, and as many and as deep keys, as there may be
func TestTheGreatestKeyAndBox(t *testing.T) {
	v := api.View{Box: api.Box{Validity: 1, Next: api.MaxUid + 1}}
	var odd, thirds []uint32
	for i := range api.MaxMails {
		uid := uint32(api.MaxUid - api.MaxMails + i + 1)
		raw := "\neven even"
		if i%2 == 1 {
			raw, odd = "\nodd odd", append(odd, uid)
		}
		if i%3 == 0 {
			raw, thirds = raw+" ddo third", append(thirds, uid)
		}
		v.Box.Messages = append(v.Box.Messages, api.Message{Uid: uid, Raw: raw})
		v.Fresh = append(v.Fresh, api.Item{Uid: uid, Doc: mail.Read(raw)})
	}
	if v.Box.Messages[len(v.Box.Messages)-1].Uid != api.MaxUid {
		t.Fatalf("the last number is %d", v.Box.Messages[len(v.Box.Messages)-1].Uid)
	}
	viewed(t, "a text", v, text("third"), len(thirds), thirds...)
	viewed(t, "two letters", v, body("od"), api.MaxMails, odd...)
	deep := body("od")
	for i := range api.MaxDepth - 1 {
		deep = []api.Key{not(deep), not(deep), or(deep, uids(2, 2)), and(deep, every)}[i%4]
	}
	viewed(t, "as deep as may be", v, deep, api.MaxMails, slices.DeleteFunc(all4096(), func(n uint32) bool { return slices.Contains(odd, n) != (countNots(deep)%2 == 0) })...)
	small := byHand()
	var kids []api.Key
	for i := range api.MaxKeys - 1 {
		kids = append(kids, []api.Key{uids(5, 5), field("subject", "hello"), flag(api.FlagDraft), text("zzz")}[i%4])
	}
	viewed(t, "as many as may be", small, or(kids...), 2, 2, 5)
}

// all4096 are the numbers of the greatest box.
func all4096() []uint32 {
	var l []uint32
	for i := range api.MaxMails {
		l = append(l, uint32(api.MaxUid-api.MaxMails+i+1))
	}
	return l
}

// countNots tells how many KeyNots are above the first key without kids.
func countNots(k api.Key) int {
	many := 0
	for ; len(k.Kids) > 0; k = k.Kids[0] {
		if k.Kind == api.KeyNot {
			many++
		}
	}
	return many
}

// ownKey copies a key, all of it.
func ownKey(k api.Key) api.Key {
	k.Name, k.Text, k.Set, k.Kids = strings.Clone(k.Name), strings.Clone(k.Text), slices.Clone(k.Set), slices.Clone(k.Kids)
	for i, kid := range k.Kids {
		k.Kids[i] = ownKey(kid)
	}
	return k
}

// where tells at which address a list begins.
func where[T any](l []T) uintptr {
	return uintptr(unsafe.Pointer(unsafe.SliceData(l)))
}

// whereText tells at which address a text begins.
func whereText(s string) uintptr {
	return uintptr(unsafe.Pointer(unsafe.StringData(s)))
}

// 26.3
func TestAnswersAreNewMemory(t *testing.T) {
	d := disks()["some in each, one dead"]
	given := api.Fs{Room: d.Room, Files: slices.Clone(d.Files), Fuse: d.Fuse, Fault: d.Fault}
	for what, f := range findings() {
		k, v := ownKey(f.key), byHand()
		first, _, _ := query.Run(d, k)
		second, _, _ := query.Run(d, k)
		third, _, _ := query.View(v, k)
		fourth, _, _ := query.View(v, k)
		tokens, _, _, _ := query.Explain(d, k)
		again, _, _, _ := query.Explain(d, k)
		if !reflect.DeepEqual(k, f.key) || !reflect.DeepEqual(v, byHand()) || !reflect.DeepEqual(d, given) {
			t.Fatalf("%s: what is handed in was changed", what)
		}
		for _, l := range [][2][]uint32{{first, second}, {third, fourth}, {third, v.Dead}} {
			if cap(l[0]) > 0 && cap(l[1]) > 0 && where(l[0]) == where(l[1]) {
				t.Fatalf("%s: two answers share memory", what)
			}
		}
		for i := range tokens {
			if tokens[i].Text != "" && (whereText(tokens[i].Text) == whereText(again[i].Text) || whereText(tokens[i].Text) == whereText(k.Text)) {
				t.Fatalf("%s: two tokens share memory", what)
			}
		}
		want := slices.Clone(fourth)
		clear(first[:cap(first)])
		clear(third[:cap(third)])
		clear(tokens)
		clear(k.Kids)
		clear(k.Set)
		clear(v.Fresh)
		clear(v.Box.Messages)
		if !slices.Equal(second, f.finds) || !slices.Equal(fourth, want) || slices.Contains(again, api.Token{}) {
			t.Fatalf("%s: what is handed in, or was told earlier, is to be seen in an answer", what)
		}
	}
}

// pick tells one of some.
func pick[T any](r *rand.Rand, l ...T) T {
	return l[r.Intn(len(l))]
}

// keyOf makes a right key of at most so many levels.
func keyOf(r *rand.Rand, levels int) api.Key {
	what := r.Intn(4)
	if levels < 2 || what == 0 {
		return leaf(r)
	}
	if what == 1 {
		return not(keyOf(r, levels-1))
	}
	var kids []api.Key
	for range 2 + r.Intn(2) {
		kids = append(kids, keyOf(r, levels-1))
	}
	return api.Key{Kind: pick(r, api.KeyOr, api.KeyAnd), Kids: kids}
}

// leaf makes one without kids.
func leaf(r *rand.Rand) api.Key {
	word := pick(r, "", "hello", "a", "Hello", "ab", "abcde", "world", "\xc3\x89t\xc3\xa9", "zzz", ": ", "date: ")
	switch r.Intn(9) {
	case 0:
		return flag(api.Flag(1 + r.Intn(int(api.FlagAll))))
	case 1:
		return day(pick(r, api.KeyBefore, api.KeyOn, api.KeySince), pick(r, -1, 0, 9, 10, 11, 12))
	case 2:
		return day(pick(r, api.KeySentBefore, api.KeySentOn, api.KeySentSince), pick(r, 0, feb5-1, feb5, feb5+1))
	case 3:
		return size(pick(r, api.KeyLarger, api.KeySmaller), uint32(r.Intn(60)))
	case 4:
		return pick(r, uids, places)(uint32(r.Intn(22)), uint32(r.Intn(9)), uint32(r.Intn(22)), 2)
	case 5:
		return pick(r, every, recent)
	case 6:
		return field(pick(r, "Subject", "TO", "date", "x"), word)
	}
	return pick(r, body(word), text(word))
}

// step changes a disk somehow, with its power going or its writes failing now and then; behind it the disk is whole again.
func step(r *rand.Rand, d api.Fs, b api.Box) api.Fs {
	if r.Intn(3) == 0 {
		d.Fuse = r.Intn(6)
	} else if r.Intn(3) == 0 {
		d.Fault = r.Intn(6)
	}
	switch r.Intn(9) {
	case 0, 1, 2:
		d, _, _ = store.Do(d, pick(r, mails()...))
	case 3:
		if len(b.Messages) > 0 {
			for _, c := range gone(pick(r, b.Messages...).Uid) {
				d, _, _ = store.Do(d, c)
			}
		}
	case 4:
		d, _, _ = store.Do(d, api.Change{Kind: api.ChangeSelect})
	default:
		d = indexed(r, d)
	}
	if d.Down {
		d, _ = disk.Crash(d, r.Intn(99), r.Intn(99), r.Intn(99))
		d, _ = store.Recover(d)
	}
	d.Fuse, d.Fault = -1, -1
	return d
}

// indexed does one step of the index, whether it goes well or not.
func indexed(r *rand.Rand, d api.Fs) api.Fs {
	what := r.Intn(4)
	next := d
	switch what {
	case 0, 1:
		next, _, _ = index.Flush(d)
	case 2:
		next, _, _ = index.Merge(d, 2+r.Intn(2))
	default:
		var errno api.Errno
		if next, errno = index.Collect(d); errno != api.OK && !next.Down && len(next.Files) == 0 { // what can't be loaded is answered by a zero disk
			next = d
		}
	}
	return next
}

// 26.4, 26.5, P4: whatever there was between two searches
func TestExactAndChecked(t *testing.T) {
	ahead := runtime.NumGoroutine()
	r := rand.New(rand.NewSource(5))
	few := 0
	for range 25 {
		d := made()
		for range 40 {
			b, _ := store.Load(d)
			d = step(r, d, b)
			b, errno := store.Load(d)
			if errno != api.OK {
				t.Fatalf("store.Load: %d", errno)
			}
			for range 4 {
				k := keyOf(r, 1+r.Intn(4))
				want, _ := sat.Search(k, b)
				got, looked, errno := query.Run(d, k)
				v, _ := index.Load(d)
				cost, _ := plan.Cost(k, v)
				if !slices.Equal(got, want) || looked > cost || errno != api.OK {
					t.Fatalf("%v of %v: Run = %v, %d, %d, not %v, at most %d", k, b, got, looked, errno, want, cost)
				}
				_, first, second, errno := query.Explain(d, k)
				if first > len(want) || len(want) > second || second-first != cost || errno != api.OK {
					t.Fatalf("%v of %v: Explain: %d, %d, %d, and found %v", k, b, first, second, errno, want)
				}
				if looked > 0 && looked < len(b.Messages) {
					few++
				}
			}
		}
	}
	if few < 100 {
		t.Errorf("only %d searches have looked at some mails, and not at all", few)
	}
	if behind := runtime.NumGoroutine(); behind > ahead { // fewer, if that of an earlier test was just ending
		t.Errorf("%d goroutines ahead, %d behind", ahead, behind)
	}
}

// 26.4: steps of the index change no answer, and not how many are looked at, however they end
func TestTheSameBehindSteps(t *testing.T) {
	r := rand.New(rand.NewSource(6))
	for range 60 {
		d := made()
		for range 12 {
			b, _ := store.Load(d)
			d = step(r, d, b)
		}
		k := keyOf(r, 3)
		want, looked, errno := query.Run(d, k)
		for range 6 {
			d.Fault = r.Intn(8) - 1
			d = indexed(r, d)
			d.Fault = -1
			if got, n, again := query.Run(d, k); !slices.Equal(got, want) || n != looked || again != errno {
				t.Fatalf("%v: Run = %v, %d, %d, not %v, %d, %d", k, got, n, again, want, looked, errno)
			}
		}
	}
}

// 26.1: View is of any right view, as sat is of a box whose mails are its items'
func TestManyViews(t *testing.T) {
	r := rand.New(rand.NewSource(7))
	for range 2000 {
		v, read := api.View{Box: api.Box{Validity: 3, Next: 1}, Segs: make([][]api.Item, 2)}, api.Box{}
		for range r.Intn(9) {
			c := pick(r, mails()...)
			b, l, _ := box.Do(v.Box, pick(r, mails()...))
			last := len(b.Messages) - 1
			x := api.Item{Uid: l[0], Inner: c.Inner.Day, Doc: mail.Read(c.Raw)}
			if at := r.Intn(3); at < 2 {
				v.Segs[at] = append(v.Segs[at], x)
			} else {
				v.Fresh = append(v.Fresh, x)
			}
			m := b.Messages[last]
			m.Inner, m.Raw = c.Inner, c.Raw
			read.Messages = append(read.Messages, m)
			v.Box = b
		}
		read.Validity, read.Next = v.Box.Validity, v.Box.Next
		k := keyOf(r, 1+r.Intn(4))
		want, _ := sat.Search(k, read)
		got, looked, errno := query.View(v, k)
		if cost, _ := plan.Cost(k, v); !slices.Equal(got, want) || looked != cost || errno != api.OK {
			t.Fatalf("%v of %v: View = %v, %d, %d, not %v, %d", k, v, got, looked, errno, want, cost)
		}
	}
}

// The example of the chapter.
func TestExample(t *testing.T) {
	for what, d := range disks() {
		if got, n, errno := query.Run(d, text("hello")); fmt.Sprint(got) != "[1 2 3]" || n != 4 || errno != api.OK { // 6 has hel, ell and llo, and no hello
			t.Errorf("%s: Run = %v, %d, %d", what, got, n, errno)
		}
	}
}
