package plan_test

import (
	"cmp"
	"fmt"
	"maps"
	"math"
	"math/rand"
	"reflect"
	"runtime"
	"slices"
	"strings"
	"testing"
	"unsafe"

	"missive/api"
	"missive/disk"
	"missive/index"
	"missive/key"
	"missive/mail"
	"missive/plan"
	"missive/runes"
	"missive/sat"
	"missive/store"
)

// The signatures that the chapter lists.
var (
	_ func(api.View) api.Errno                                = plan.Check
	_ func(api.Key, api.View) ([]uint32, []uint32, api.Errno) = plan.Bounds
	_ func(api.Key, api.View) (int, api.Errno)                = plan.Cost
)

// Short ways to make keys by hand.
var (
	every  = api.Key{Kind: api.KeyAll}
	recent = api.Key{Kind: api.KeyRecent}
	seen   = flag(api.FlagSeen)
)

func flag(f api.Flag) api.Key                 { return api.Key{Kind: api.KeyFlag, Flags: f} }
func field(name, text string) api.Key         { return api.Key{Kind: api.KeyField, Name: name, Text: text} }
func body(s string) api.Key                   { return api.Key{Kind: api.KeyBody, Text: s} }
func text(s string) api.Key                   { return api.Key{Kind: api.KeyText, Text: s} }
func day(kind api.KeyKind, d int) api.Key     { return api.Key{Kind: kind, Day: d} }
func size(kind api.KeyKind, n uint32) api.Key { return api.Key{Kind: kind, N: n} }
func uids(l ...uint32) api.Key                { return api.Key{Kind: api.KeyUids, Set: spans(l...)} }
func places(l ...uint32) api.Key              { return api.Key{Kind: api.KeyPlaces, Set: spans(l...)} }
func not(k api.Key) api.Key                   { return api.Key{Kind: api.KeyNot, Kids: []api.Key{k}} }
func or(l ...api.Key) api.Key                 { return api.Key{Kind: api.KeyOr, Kids: l} }
func and(l ...api.Key) api.Key                { return api.Key{Kind: api.KeyAnd, Kids: l} }

// spans are of two numbers each.
func spans(ends ...uint32) []api.Span {
	var l []api.Span
	for i := 0; i < len(ends); i += 2 {
		l = append(l, api.Span{From: ends[i], To: ends[i+1]})
	}
	return l
}

// is tells numbers shortly.
func is(l ...uint32) []uint32 { return l }

// feb5 is the day of "5 Feb 96".
const feb5 = 9531

// someBox has gaps: the mails 2, 3, 7, 8 and 20, at the places 1 to 5.
func someBox() api.Box {
	return api.Box{Validity: 9, Next: 30, Mark: 7, Last: 21, Messages: []api.Message{
		{Uid: 2, Flags: api.FlagSeen, Inner: api.Time{Day: 10}, Raw: "Subject: Hello\nDate: 5 Feb 96\n\nWorld"},
		{Uid: 3, Flags: api.FlagSeen | api.FlagDraft, Inner: api.Time{Day: 11}, Raw: "Subject: other\nDate: 6 Feb 96\nTo: Anna\n\nHELLO abcd bcde"},
		{Uid: 7, Flags: api.FlagAll, Inner: api.Time{Day: 12}, Raw: "Date: no day\nContent-Type: text/plain; charset=utf-8\n\nSTRASSE \xc3\x89t\xc3\x89"},
		{Uid: 8, Inner: api.Time{Day: -1}, Raw: ""},
		{Uid: 20, Flags: api.FlagDeleted, Inner: api.Time{Day: 11}, Raw: "Date: 4 Feb 1996\n\nab"},
	}}
}

// all are the numbers of someBox's mails.
var all = is(2, 3, 7, 8, 20)

// others are those of someBox's mails that are not among these.
func others(of ...uint32) []uint32 {
	return slices.DeleteFunc(slices.Clone(all), func(n uint32) bool { return slices.Contains(of, n) })
}

// itemsOf tells the items of all mails of a box, as an index has them.
func itemsOf(b api.Box) []api.Item {
	var l []api.Item
	for _, m := range b.Messages {
		l = append(l, api.Item{Uid: m.Uid, Inner: m.Inner.Day, Doc: mail.Read(m.Raw)})
	}
	return l
}

// some is a view with something of everything: 2 and 7 in one segment, together with 5, that is dead; 3 in another one; 8 and 20 fresh.
func some() api.View {
	b := someBox()
	x := itemsOf(b)
	gone := api.Item{Uid: 5, Inner: 11, Doc: mail.Read("Subject: Hello\nDate: 5 Feb 96\n\nWorld")}
	return api.View{Box: b, Manifest: api.Manifest{Gen: 3, Next: 9, Segs: []api.SegRef{{Id: 2, Items: 3}, {Id: 5, Items: 1}}, Upto: 8}, Segs: [][]api.Item{{x[0], gone, x[2]}, {x[1]}}, Fresh: x[3:], Dead: is(5)}
}

// fresh tells a view of a box all of whose items are fresh.
func fresh(b api.Box) api.View {
	return api.View{Box: b, Fresh: itemsOf(b)}
}

// bounded sees that a key's bounds, and what they cost, are these.
func bounded(t *testing.T, what string, k api.Key, v api.View, first, second []uint32) {
	t.Helper()
	x, y, errno := plan.Bounds(k, v)
	if !slices.Equal(x, first) || !slices.Equal(y, second) || errno != api.OK {
		t.Errorf("%s: Bounds = %v, %v, %d, not %v, %v", what, x, y, errno, first, second)
	}
	cost := 0
	for _, n := range second {
		if !slices.Contains(first, n) {
			cost++
		}
	}
	if n, errno := plan.Cost(k, v); n != cost || errno != api.OK {
		t.Errorf("%s: Cost = %d, %d, not %d", what, n, errno, cost)
	}
}

// refused sees that a key and a view are answered by ErrForm alone.
func refused(t *testing.T, what string, k api.Key, v api.View) {
	t.Helper()
	if x, y, errno := plan.Bounds(k, v); len(x) != 0 || len(y) != 0 || errno != api.ErrForm {
		t.Errorf("%s: Bounds = %v, %v, %d, not ErrForm alone", what, x, y, errno)
	}
	if n, errno := plan.Cost(k, v); n != 0 || errno != api.ErrForm {
		t.Errorf("%s: Cost = %d, %d, not ErrForm alone", what, n, errno)
	}
}

// bound is a key, and its two lists in some.
type bound struct {
	key           api.Key
	first, second []uint32
}

// exact is of a key whose lists are one.
func exact(k api.Key, l ...uint32) bound { return bound{k, l, l} }

// exacts has each kind without texts.
func exacts() map[string]bound {
	return map[string]bound{
		"all": exact(every, all...), "recent": exact(recent, 8, 20), "seen": exact(seen, 2, 3, 7), "draft": exact(flag(api.FlagDraft), 3, 7), "deleted": exact(flag(api.FlagDeleted), 7, 20),
		"two flags": exact(flag(api.FlagSeen|api.FlagDraft), 3, 7), "two flags of one mail": exact(flag(api.FlagSeen|api.FlagDeleted), 7), "all flags": exact(flag(api.FlagAll), 7),

		"before 11": exact(day(api.KeyBefore, 11), 2, 8), "before 10": exact(day(api.KeyBefore, 10), 8), "before -1": exact(day(api.KeyBefore, -1)), "before the last day": exact(day(api.KeyBefore, api.MaxDay), all...),
		"on 11": exact(day(api.KeyOn, 11), 3, 20), "on -1": exact(day(api.KeyOn, -1), 8), "on 9": exact(day(api.KeyOn, 9)), "since 11": exact(day(api.KeySince, 11), 3, 7, 20), "since 12": exact(day(api.KeySince, 12), 7), "since 13": exact(day(api.KeySince, 13)), "since the first day": exact(day(api.KeySince, api.MinDay), all...),
		"sent before": exact(day(api.KeySentBefore, feb5), 20), "sent before one more": exact(day(api.KeySentBefore, feb5+1), 2, 20), "sent before one less": exact(day(api.KeySentBefore, feb5-1)), "sent before the last day": exact(day(api.KeySentBefore, api.MaxDay), 2, 3, 20),
		"sent on": exact(day(api.KeySentOn, feb5), 2), "sent on one less": exact(day(api.KeySentOn, feb5-1), 20), "sent on 0": exact(day(api.KeySentOn, 0)),
		"sent since": exact(day(api.KeySentSince, feb5), 2, 3), "sent since one more": exact(day(api.KeySentSince, feb5+1), 3), "sent since the first day": exact(day(api.KeySentSince, api.MinDay), 2, 3, 20),

		"larger than 0": exact(size(api.KeyLarger, 0), others(8)...), "larger than 19": exact(size(api.KeyLarger, 19), others(8)...), "larger than 20": exact(size(api.KeyLarger, 20), 2, 3, 7), "larger than the greatest": exact(size(api.KeyLarger, math.MaxUint32)),
		"smaller than 0": exact(size(api.KeySmaller, 0)), "smaller than 1": exact(size(api.KeySmaller, 1), 8), "smaller than 20": exact(size(api.KeySmaller, 20), 8), "smaller than 21": exact(size(api.KeySmaller, 21), 8, 20), "smaller than the greatest": exact(size(api.KeySmaller, math.MaxUint32), all...),

		"uid 3": exact(uids(3, 3), 3), "uid of a dead one": exact(uids(5, 5)), "uids that fall": exact(uids(8, 3), 3, 7, 8), "uid of a star": exact(uids(0, 0), 20), "uids up to a star": exact(uids(7, 0), 7, 8, 20), "uids from a star above": exact(uids(25, 0), 20), "two spans": exact(uids(2, 2, 7, 9), 2, 7, 8), "all uids": exact(uids(1, math.MaxUint32), all...),
		"place 1": exact(places(1, 1), 2), "place of a star": exact(places(0, 0), 20), "places up to a star": exact(places(4, 0), 8, 20), "places from a star above": exact(places(9, 0), 20), "places above": exact(places(6, 30)), "two spans of places": exact(places(5, 5, 1, 2), 2, 3, 20),

		"not seen": exact(not(seen), 8, 20), "not all": exact(not(every)), "not none": exact(not(uids(4, 6)), all...), "not not": exact(not(not(seen)), 2, 3, 7),
		"or": exact(or(uids(2, 2), uids(20, 20)), 2, 20), "or of three": exact(or(uids(20, 20), uids(4, 4), uids(2, 3)), 2, 3, 20), "or of none": exact(or(uids(4, 4), uids(5, 5))), "or of all": exact(or(every, seen), all...),
		"and": exact(and(seen, uids(3, 8)), 3, 7), "and of three": exact(and(seen, uids(3, 8), flag(api.FlagDeleted)), 7), "and of none": exact(and(seen, recent)), "and of all": exact(and(every, every), all...),
		"new": exact(and(recent, not(seen)), 8, 20), "or, not, and": exact(or(and(seen, not(flag(api.FlagDraft))), and(recent, uids(8, 8))), 2, 8),
	}
}

// opens has keys with texts.
func opens() map[string]bound {
	hello := is(2, 3)
	return map[string]bound{
		"a text": {text("hello"), nil, hello}, "a body": {body("hello"), nil, hello}, "a field": {field("subject", "hello"), nil, hello}, "a field that there is not": {field("cc", "hello"), nil, hello},
		"a field's line": {text("subject: o"), nil, is(3)}, "a field's line in the body": {body("subject: o"), nil, is(3)}, "a field's name in a field": {field("To", "subject: o"), nil, is(3)},
		"no letters": {text(""), nil, all}, "no letters of a body": {body(""), nil, all}, "no letters of a field": {field("subject", ""), nil, all},
		"one letter": {text("h"), nil, all}, "one letter that there is not": {body("z"), nil, all}, "two letters": {text("ab"), nil, all}, "two letters that there are not": {field("x", "zz"), nil, all}, "two letters of four bytes": {body("\xc3\x89\xc3\x89"), nil, all},
		"three letters": {text("hel"), nil, hello}, "three letters that there are not": {text("zzz"), nil, nil}, "three letters of five bytes": {body("\xc3\xa9t\xc3\xa9"), nil, is(7)},
		"in a mail of two letters": {text("ab "), nil, nil}, "four letters": {body("worl"), nil, is(2)}, "four letters, one of them wrong": {body("worx"), nil, nil}, "all parts, and not the text": {body("abcde"), nil, is(3)}, "parts of several texts": {text("hello\n"), nil, nil},
		"what is not folded": {text("HeLLo"), nil, hello}, "three letters that fold": {body("\xc3\x89T\xc3\x89"), nil, is(7)}, "a long s": {body("\xc5\xbft\xc5\x94"), nil, nil}, "letters that fold to other ones": {body("\xc5\xbfTRA\xc5\xbf\xc5\xbfe"), nil, is(7)},
		"what is no UTF-8": {text("\xff\xff\xff"), nil, nil}, "what is no UTF-8, of two letters": {text("\xff\xff"), nil, all}, "a dead one's text": {text("world"), nil, is(2)},

		"not a text": {not(text("hello")), others(hello...), all}, "not of no letters": {not(body("")), nil, all}, "not of what nobody has": {not(field("a", "zzz")), all, all}, "not not a text": {not(not(text("hello"))), nil, hello}, "not not not a text": {not(not(not(text("hello")))), others(hello...), all},
		"or of two texts": {or(text("world"), body("strasse")), nil, is(2, 7)}, "or of a text and a flag": {or(text("hello"), flag(api.FlagDraft)), is(3, 7), is(2, 3, 7)}, "or of a flag and a text": {or(flag(api.FlagDraft), text("hello")), is(3, 7), is(2, 3, 7)}, "or of a text and all": {or(text("hello"), every), all, all}, "or of a text and none": {or(uids(4, 4), text("hello")), nil, hello},
		"or of not a text": {or(not(text("hello")), uids(2, 2)), others(3), all}, "or of a text and not that": {or(text("hello"), not(text("hello"))), others(hello...), all}, "or of three": {or(text("world"), uids(8, 8), not(text("strasse"))), others(7), all},
		"and of two texts": {and(text("hello"), body("world")), nil, is(2)}, "and of a text and a flag": {and(text("hello"), flag(api.FlagDraft)), nil, is(3)}, "and of a flag and a text": {and(flag(api.FlagDraft), text("hello")), nil, is(3)}, "and of a text and none": {and(text("hello"), uids(4, 4)), nil, nil},
		"and of not a text": {and(not(text("hello")), flag(api.FlagDraft)), is(7), is(3, 7)}, "and of a text and not that": {and(text("hello"), not(text("hello"))), nil, hello}, "and of three": {and(seen, not(text("world")), not(text("strasse"))), is(3), is(2, 3, 7)},
		"not of or": {not(or(text("hello"), recent)), is(7), is(2, 3, 7)}, "not of and": {not(and(text("hello"), flag(api.FlagDraft))), others(3), all},
	}
}

// 25.1, 25.4
func TestBounds(t *testing.T) {
	met := map[api.KeyKind]bool{}
	l := exacts()
	maps.Copy(l, opens())
	for what, x := range l {
		if errno := key.Check(x.key); errno != api.OK {
			t.Fatalf("%s is not right: %d", what, errno)
		}
		met[x.key.Kind] = true
		bounded(t, what, x.key, some(), x.first, x.second)
		bounded(t, what+", all fresh", x.key, fresh(someBox()), x.first, x.second)
		bounded(t, "not "+what, not(x.key), some(), others(x.second...), others(x.first...))
		bounded(t, "not not "+what, not(not(x.key)), some(), x.first, x.second)
		bounded(t, what+", and all", and(x.key, every), some(), x.first, x.second)
		bounded(t, what+", or none", or(not(every), x.key), some(), x.first, x.second)
	}
	for kind := api.KeyAll; kind < api.KeyCount; kind++ {
		if !met[kind] {
			t.Errorf("no key of kind %d was asked", kind)
		}
	}
}

// 25.1
func TestABoxWithoutMails(t *testing.T) {
	empty := api.View{Box: api.Box{Validity: 1, Next: 9}}
	gone := empty
	gone.Segs, gone.Dead = some().Segs, is(2, 3, 5, 7)
	l := exacts()
	maps.Copy(l, opens())
	for what, x := range l {
		bounded(t, what, x.key, empty, nil, nil)
		bounded(t, what+", all dead", x.key, gone, nil, nil)
	}
}

// changed tells some, changed.
func changed(do func(v *api.View)) api.View {
	v := some()
	do(&v)
	return v
}

// rightViews are views that are right: of whatever segments, and whatever their manifests say.
func rightViews() map[string]api.View {
	x := itemsOf(someBox())
	return map[string]api.View{
		"some": some(), "all fresh": fresh(someBox()), "no mails": {Box: api.Box{Validity: 1, Next: 1}}, "all in one segment": {Box: someBox(), Segs: [][]api.Item{x}}, "each in one": {Box: someBox(), Segs: [][]api.Item{x[4:], x[3:4], nil, x[2:3], x[1:2], x[:1]}},
		"fresh that fall":            {Box: someBox(), Fresh: []api.Item{x[4], x[0], x[3], x[2], x[1]}},
		"an item twice":              changed(func(v *api.View) { v.Segs = append(v.Segs, v.Segs[1], v.Fresh) }),
		"a fresh one that is dead":   changed(func(v *api.View) { v.Dead = is(20, 8, 5, 5) }),
		"a dead one that is nowhere": changed(func(v *api.View) { v.Dead = is(5, 6, 0, math.MaxUint32) }),
		"a manifest that is none":    changed(func(v *api.View) { v.Manifest = api.Manifest{Dead: is(9, 8), Segs: []api.SegRef{{Items: -1}}} }),
		"items of nothing":           changed(func(v *api.View) { v.Fresh = []api.Item{{Uid: 8}, {Uid: 20}} }),
		"names without values":       changed(func(v *api.View) { v.Fresh[0].Doc = api.Doc{Names: []string{"a", "b"}, Size: -1} }),
	}
}

// wrongViews are views that are not right.
func wrongViews() map[string]api.View {
	l := map[string]api.View{
		"zero":                          {},
		"no items":                      {Box: someBox()},
		"no mails, but an item":         {Box: api.Box{Validity: 1, Next: 9}, Fresh: []api.Item{{Uid: 1}}},
		"no mails, but one of number 0": {Box: api.Box{Validity: 1, Next: 9}, Fresh: []api.Item{{}}},
		"a fresh item too few":          changed(func(v *api.View) { v.Fresh = v.Fresh[:1] }),
		"an item too few":               changed(func(v *api.View) { v.Segs[0] = v.Segs[0][1:] }),
		"a segment too few":             changed(func(v *api.View) { v.Segs = v.Segs[:1] }),
		"a mail that is dead":           changed(func(v *api.View) { v.Dead = is(5, 7) }),
		"a dead one that is not told":   changed(func(v *api.View) { v.Dead = nil }),
		"an item too many":              changed(func(v *api.View) { v.Segs[1] = append(v.Segs[1], api.Item{Uid: 9}) }),
		"a first one too many":          changed(func(v *api.View) { v.Fresh = append(v.Fresh, api.Item{Uid: 1}) }),
		"a last one too many":           changed(func(v *api.View) { v.Fresh = append(v.Fresh, api.Item{Uid: 29}) }),
		"one of number 0 too many":      changed(func(v *api.View) { v.Fresh = append(v.Fresh, api.Item{}) }),
		"one of another mail":           changed(func(v *api.View) { v.Segs[1][0].Uid = 4 }),
		"a last one of another mail":    changed(func(v *api.View) { v.Fresh[1].Uid = 21 }),
		"a mail too many":               changed(func(v *api.View) { v.Box.Messages = append(v.Box.Messages, api.Message{Uid: 25}) }),
		"a mail too few":                changed(func(v *api.View) { v.Box.Messages = v.Box.Messages[:4] }),
		"a mail of another number":      changed(func(v *api.View) { v.Box.Messages[4].Uid = 21 }),
	}
	for what, do := range map[string]func(b *api.Box){
		"no Validity": func(b *api.Box) { b.Validity = 0 }, "no Next": func(b *api.Box) { b.Next = 0 }, "Next at a number": func(b *api.Box) { b.Next = 20 }, "Next too great": func(b *api.Box) { b.Next = api.MaxUid + 2 }, "Mark above Last": func(b *api.Box) { b.Mark = b.Last + 1 }, "Last at Next": func(b *api.Box) { b.Last = 30 },
		"mails that fall": func(b *api.Box) { slices.Reverse(b.Messages) }, "a mail twice": func(b *api.Box) { b.Messages = append(b.Messages, b.Messages[4]) }, "a flag that is none": func(b *api.Box) { b.Messages[1].Flags = api.FlagAll + 1 }, "no time": func(b *api.Box) { b.Messages[2].Inner.Day = api.MaxDay + 1 }, "too many bytes": func(b *api.Box) { b.Messages[3].Raw = strings.Repeat("x", api.MaxMail+1) },
	} {
		l["a box that is not right: "+what] = changed(func(v *api.View) { do(&v.Box) })
	}
	many := api.Box{Validity: 1, Next: api.MaxMails + 9}
	for i := range api.MaxMails + 1 {
		many.Messages = append(many.Messages, api.Message{Uid: uint32(i + 1)})
	}
	l["too many mails"] = fresh(many)
	return l
}

// wrongKeys are keys that are not right, in some ways.
func wrongKeys() map[string]api.Key {
	deep := every
	for range api.MaxDepth {
		deep = not(deep)
	}
	self := make([]api.Key, 2)
	self[0], self[1] = api.Key{Kind: api.KeyOr, Kids: self}, every
	return map[string]api.Key{
		"zero": {}, "KeyCount": {Kind: api.KeyCount}, "no flag": flag(0), "no such flag": flag(32), "no name": field("", "abc"), "a name that is none": field("a:", "abc"), "no set": uids(), "a day too late": day(api.KeyOn, api.MaxDay+1), "a day too early": day(api.KeySentSince, api.MinDay-1),
		"not of none": {Kind: api.KeyNot}, "or of one": or(every), "and of none": and(), "a wrong kid": or(every, api.Key{}), "a wrong kid's kid": and(every, not(body("abc")), not(uids())), "all with a text": {Kind: api.KeyAll, Text: "a"}, "a text with a day": {Kind: api.KeyText, Text: "abc", Day: 1},
		"too deep": deep, "too many": and(slices.Repeat([]api.Key{every}, api.MaxKeys)...), "within itself": self[0], "too many spans": {Kind: api.KeyPlaces, Set: make([]api.Span, api.MaxSpans+1)},
	}
}

// 25.1
func TestCheck(t *testing.T) {
	for what, v := range rightViews() {
		if errno := plan.Check(v); errno != api.OK {
			t.Errorf("%s: Check = %d, not OK", what, errno)
		}
		if _, _, errno := plan.Bounds(or(every, text("hello")), v); errno != api.OK {
			t.Errorf("%s: Bounds: %d, not OK", what, errno)
		}
		if _, errno := plan.Cost(every, v); errno != api.OK {
			t.Errorf("%s: Cost: %d, not OK", what, errno)
		}
		for whose, k := range wrongKeys() {
			refused(t, what+", a key that is not right: "+whose, k, v)
		}
	}
	for what, v := range wrongViews() {
		if errno := plan.Check(v); errno != api.ErrForm {
			t.Errorf("%s: Check = %d, not ErrForm", what, errno)
		}
		for _, k := range []api.Key{every, text("hello"), not(seen), size(api.KeyLarger, 0), uids(0, 0), {}} {
			refused(t, what, k, v)
		}
	}
}

// 25.1: which item is whose is what index.Items tells; what has the parts, what index.Seek tells
func TestTheFirstItemOfANumberCounts(t *testing.T) {
	v := fresh(someBox())
	v.Segs = [][]api.Item{{{Uid: 20, Inner: 77, Doc: api.Doc{Size: 500, Day: 8, Dated: true, Body: []string{"first"}}}}}
	v.Segs = append(v.Segs, []api.Item{{Uid: 20, Inner: 78, Doc: api.Doc{Body: []string{"second"}}}})
	bounded(t, "its day", day(api.KeyOn, 77), v, is(20), is(20))
	bounded(t, "another one's day", day(api.KeyOn, 78), v, nil, nil)
	bounded(t, "the mail's day", day(api.KeyOn, 11), v, is(3), is(3))
	bounded(t, "its size", size(api.KeyLarger, 499), v, is(20), is(20))
	bounded(t, "its Date", day(api.KeySentOn, 8), v, is(20), is(20))
	bounded(t, "its text", body("first"), v, nil, is(20))
	bounded(t, "another one's text", body("second"), v, nil, nil)
}

// 25.1: columns are the item's, not the mail's; the others are the box's
func TestColumnsOfTheItem(t *testing.T) {
	b := someBox()
	v := api.View{Box: b, Fresh: []api.Item{
		{Uid: 2, Inner: -5, Doc: api.Doc{Size: -1, Day: 100}},
		{Uid: 3, Inner: math.MinInt, Doc: api.Doc{Size: math.MinInt, Day: 100, Dated: true}},
		{Uid: 7, Inner: math.MaxInt, Doc: api.Doc{Size: math.MaxInt, Day: math.MaxInt, Dated: true}},
		{Uid: 8, Inner: 100, Doc: api.Doc{Size: math.MaxUint32, Day: math.MinInt, Dated: true}},
		{Uid: 20, Inner: 101, Doc: api.Doc{Size: math.MaxUint32 + 1, Names: []string{"date"}, Values: []string{"5 feb 96"}}},
	}}
	for what, x := range map[string]bound{
		"before 100": exact(day(api.KeyBefore, 100), 2, 3), "before -5": exact(day(api.KeyBefore, -5), 3), "before the first day": exact(day(api.KeyBefore, api.MinDay), 3), "before the last day": exact(day(api.KeyBefore, api.MaxDay), 2, 3, 8, 20),
		"on 100": exact(day(api.KeyOn, 100), 8), "on the mail's day": exact(day(api.KeyOn, 10)), "on -5": exact(day(api.KeyOn, -5), 2),
		"since 100": exact(day(api.KeySince, 100), 7, 8, 20), "since 101": exact(day(api.KeySince, 101), 7, 20), "since the first day": exact(day(api.KeySince, api.MinDay), others(3)...),
		"sent before 100": exact(day(api.KeySentBefore, 100), 8), "sent before 101": exact(day(api.KeySentBefore, 101), 3, 8), "sent on 100": exact(day(api.KeySentOn, 100), 3), "sent on the mail's day": exact(day(api.KeySentOn, feb5)), "sent since 100": exact(day(api.KeySentSince, 100), 3, 7), "sent since 101": exact(day(api.KeySentSince, 101), 7), "sent on 0": exact(day(api.KeySentOn, 0)), "sent since the first day": exact(day(api.KeySentSince, api.MinDay), 3, 7),
		"larger than 0": exact(size(api.KeyLarger, 0), 7, 8, 20), "larger than one less than the greatest": exact(size(api.KeyLarger, math.MaxUint32-1), 7, 8, 20), "larger than the greatest": exact(size(api.KeyLarger, math.MaxUint32), 7, 20),
		"smaller than 0": exact(size(api.KeySmaller, 0), 2, 3), "smaller than 1": exact(size(api.KeySmaller, 1), 2, 3), "smaller than the greatest": exact(size(api.KeySmaller, math.MaxUint32), 2, 3), "smaller than 40": exact(size(api.KeySmaller, 40), 2, 3),
		"seen": exact(seen, 2, 3, 7), "recent": exact(recent, 8, 20), "uid of a star": exact(uids(0, 0), 20), "place 2": exact(places(2, 2), 3), "all": exact(every, all...),
		"the mail's text": {text("hello"), nil, nil}, "the item's text": {text("date: 5"), nil, is(20)}, "not the mail's text": {not(text("hello")), all, all},
	} {
		bounded(t, what, x.key, v, x.first, x.second)
	}
}

// 25.1: numbers as great as they may be
func TestTheGreatestNumber(t *testing.T) {
	v := fresh(api.Box{Validity: 1, Next: api.MaxUid + 1, Mark: api.MaxUid - 1, Last: api.MaxUid, Messages: []api.Message{{Uid: 1, Raw: "\nhello"}, {Uid: api.MaxUid, Raw: "\nworld"}}})
	bounded(t, "recent", recent, v, is(api.MaxUid), is(api.MaxUid))
	bounded(t, "a star", uids(0, 0), v, is(api.MaxUid), is(api.MaxUid))
	bounded(t, "not the first", not(uids(1, 1)), v, is(api.MaxUid), is(api.MaxUid))
	bounded(t, "the last one's text", text("orl"), v, nil, is(api.MaxUid))
	bounded(t, "not the last one's text", not(text("orl")), v, is(1), is(1, api.MaxUid))
}

// 25.1: as many mails, and as many and as deep keys, as there may be
func TestTheGreatestKeyAndBox(t *testing.T) {
	b := api.Box{Validity: 1, Next: api.MaxMails + 1}
	var numbers, odd []uint32
	for i := range api.MaxMails {
		uid := uint32(i + 1)
		raw := "\neven"
		if uid%2 == 1 {
			raw, odd = "\nodd", append(odd, uid)
		}
		numbers = append(numbers, uid)
		b.Messages = append(b.Messages, api.Message{Uid: uid, Raw: raw})
	}
	v := fresh(b)
	bounded(t, "all", every, v, numbers, numbers)
	bounded(t, "a text", text("odd"), v, nil, odd)
	bounded(t, "not a text", not(text("even")), v, odd, numbers)
	deep := text("odd")
	for i := range api.MaxDepth - 1 {
		deep = []api.Key{not(deep), not(deep), or(deep, uids(2, 2)), and(deep, every)}[i%4]
	}
	if depth, errno := key.Depth(deep); depth != api.MaxDepth || errno != api.OK {
		t.Fatalf("Depth = %d, %d", depth, errno)
	}
	first, second, errno := plan.Bounds(deep, v)
	if errno != api.OK || !slices.Equal(first, is(2)) || !slices.Equal(second, append(is(1, 2), odd[1:]...)) {
		t.Errorf("as deep as may be: %v, %d numbers, %d", first, len(second), errno)
	}
	small := fresh(someBox())
	var kids []api.Key
	for i := range api.MaxKeys - 1 {
		kids = append(kids, []api.Key{uids(2, 2), body("strasse"), places(5, 5), text("zzz")}[i%4])
	}
	bounded(t, "as many as may be", or(kids...), small, is(2, 20), is(2, 7, 20))
}

// where tells at which address a list begins.
func where[T any](l []T) uintptr {
	return uintptr(unsafe.Pointer(unsafe.SliceData(l)))
}

// ownKey copies a key, all of it.
func ownKey(k api.Key) api.Key {
	k.Name, k.Text, k.Set, k.Kids = strings.Clone(k.Name), strings.Clone(k.Text), slices.Clone(k.Set), slices.Clone(k.Kids)
	for i, kid := range k.Kids {
		k.Kids[i] = ownKey(kid)
	}
	return k
}

// 25.2
func TestAnswersAreNewMemory(t *testing.T) {
	l := exacts()
	maps.Copy(l, opens())
	for what, x := range l {
		v, k := some(), ownKey(x.key)
		first, second, _ := plan.Bounds(k, v)
		again, twice, _ := plan.Bounds(k, v)
		_, _ = plan.Cost(k, v)
		if !reflect.DeepEqual(v, some()) || !reflect.DeepEqual(k, x.key) || plan.Check(v) != api.OK {
			t.Fatalf("%s: what is handed in was changed", what)
		}
		lists := [][]uint32{first, second, again, twice, v.Dead}
		for i, a := range lists {
			for _, b := range lists[:i] {
				if cap(a) > 0 && cap(b) > 0 && where(a) == where(b) {
					t.Fatalf("%s: two lists share memory", what)
				}
			}
		}
		spoil := func(l []uint32) {
			l = l[:cap(l)]
			for i := range l {
				l[i] = 99
			}
		}
		spoil(first)
		if !slices.Equal(second, x.second) {
			t.Fatalf("%s: the first list is to be seen in the second one", what)
		}
		spoil(second)
		clear(v.Box.Messages)
		clear(v.Fresh)
		clear(k.Kids)
		clear(k.Set)
		if !slices.Equal(again, x.first) || !slices.Equal(twice, x.second) {
			t.Fatalf("%s: what is handed in, or was told earlier, is to be seen in an answer", what)
		}
	}
}

// pick tells one of some.
func pick[T any](r *rand.Rand, l ...T) T {
	return l[r.Intn(len(l))]
}

// keyOf makes a right key of at most so many levels, with texts, if they are wanted.
func keyOf(r *rand.Rand, levels int, texts bool) api.Key {
	what := r.Intn(4)
	if levels < 2 || what == 0 {
		return leaf(r, texts)
	}
	if what == 1 {
		return not(keyOf(r, levels-1, texts))
	}
	var kids []api.Key
	for range 2 + r.Intn(2) {
		kids = append(kids, keyOf(r, levels-1, texts))
	}
	return api.Key{Kind: pick(r, api.KeyOr, api.KeyAnd), Kids: kids}
}

// leaf makes one without kids.
func leaf(r *rand.Rand, texts bool) api.Key {
	word := pick(r, "", "hello", "a", "Hello", "ab", "abcde", "\xc3\x89t\xc3\xa9", "zzz", ": ", "date: ")
	most := 6
	if texts {
		most = 9
	}
	switch r.Intn(most) {
	case 0:
		return flag(api.Flag(1 + r.Intn(int(api.FlagAll))))
	case 1:
		return day(pick(r, api.KeyBefore, api.KeyOn, api.KeySince), pick(r, -1, 0, 9, 10, 11, 12))
	case 2:
		return day(pick(r, api.KeySentBefore, api.KeySentOn, api.KeySentSince), pick(r, 0, feb5-1, feb5, feb5+1))
	case 3:
		return size(pick(r, api.KeyLarger, api.KeySmaller), uint32(r.Intn(60)))
	case 4:
		return pick(r, uids, places)(uint32(r.Intn(22)), uint32(r.Intn(9)), uint32(r.Intn(22)), 2)
	case 5:
		return pick(r, every, recent)
	case 6:
		return field(pick(r, "Subject", "TO", "date", "x"), word)
	}
	return pick(r, body(word), text(word))
}

// viewOf makes a right view, whose items are not those of its mails.
func viewOf(r *rand.Rand) api.View {
	v := api.View{Box: api.Box{Validity: 3, Next: 1}, Segs: make([][]api.Item, r.Intn(4))}
	for range r.Intn(9) {
		m, other := pick(r, someBox().Messages...), pick(r, someBox().Messages...)
		m.Uid = uint32(v.Box.Next) + uint32(r.Intn(3))
		m.Flags = api.Flag(r.Intn(int(api.FlagAll) + 1))
		v.Box.Next = uint64(m.Uid) + 1
		x := api.Item{Uid: m.Uid, Inner: other.Inner.Day, Doc: mail.Read(other.Raw)}
		gone := r.Intn(4) == 0
		if gone {
			v.Dead = append(v.Dead, m.Uid)
		} else {
			v.Box.Messages = append(v.Box.Messages, m)
		}
		at := r.Intn(len(v.Segs) + 1)
		switch {
		case at < len(v.Segs):
			v.Segs[at] = append(v.Segs[at], x)
		case !gone:
			v.Fresh = append(v.Fresh, x)
		}
	}
	v.Box.Last = uint32(r.Intn(int(v.Box.Next)))
	v.Box.Mark = uint32(r.Intn(int(v.Box.Last) + 1))
	return v
}

// model tells a key's bounds by sets, as the chapter's words make them.
func model(k api.Key, v api.View) [2]map[uint32]bool {
	items := index.Items(v)
	both := [2]map[uint32]bool{{}, {}}
	put := func(uid uint32, first, second bool) {
		if first {
			both[0][uid] = true
		}
		if second {
			both[1][uid] = true
		}
	}
	var kids [][2]map[uint32]bool
	for _, kid := range k.Kids {
		kids = append(kids, model(kid, v))
	}
	seek := index.Seek(v, mail.What(runes.Letters(k.Text)...))
	so, _ := sat.Search(k, v.Box)
	for _, x := range items {
		d, n := x.Doc, x.Uid
		is := slices.Contains(so, n)
		switch k.Kind {
		case api.KeyField, api.KeyBody, api.KeyText:
			put(n, false, slices.Contains(seek, n))
			continue
		case api.KeyNot:
			put(n, !kids[0][1][n], !kids[0][0][n])
			continue
		case api.KeyOr, api.KeyAnd:
			many := [2]int{}
			for _, kid := range kids {
				for side := range many {
					if kid[side][n] {
						many[side]++
					}
				}
			}
			enough := 1
			if k.Kind == api.KeyAnd {
				enough = len(kids)
			}
			put(n, many[0] >= enough, many[1] >= enough)
			continue
		case api.KeyBefore, api.KeyOn, api.KeySince:
			is = []bool{x.Inner < k.Day, x.Inner == k.Day, x.Inner >= k.Day}[k.Kind-api.KeyBefore]
		case api.KeySentBefore, api.KeySentOn, api.KeySentSince:
			is = d.Dated && []bool{d.Day < k.Day, d.Day == k.Day, d.Day >= k.Day}[k.Kind-api.KeySentBefore]
		case api.KeyLarger:
			is = d.Size > int(k.N)
		case api.KeySmaller:
			is = d.Size < int(k.N)
		}
		put(n, is, is)
	}
	return both
}

// numbers are a model's, rising.
func numbers(found map[uint32]bool) []uint32 {
	return slices.Sorted(maps.Keys(found))
}

// 25.1, P3, P4
func TestManyBounds(t *testing.T) {
	ahead := runtime.NumGoroutine()
	r := rand.New(rand.NewSource(2))
	apart := 0
	for range 4000 {
		k, v := keyOf(r, 1+r.Intn(4), true), viewOf(r)
		want := model(k, v)
		bounded(t, fmt.Sprint(k), k, v, numbers(want[0]), numbers(want[1]))
		plain, _ := key.Plain(k)
		bounded(t, fmt.Sprint("plain ", k), plain, v, numbers(want[0]), numbers(want[1]))
		if t.Failed() {
			t.FailNow()
		}
		if len(want[0]) < len(want[1]) && (len(want[0]) > 0 || len(want[1]) < len(v.Box.Messages)) {
			apart++
		}
	}
	if apart < 300 {
		t.Errorf("only %d keys have two lists that are apart", apart)
	}
	if behind := runtime.NumGoroutine(); behind > ahead { // fewer, if that of an earlier test was just ending
		t.Errorf("%d goroutines ahead, %d behind", ahead, behind)
	}
}

// step changes a disk somehow; what is refused changes nothing.
func step(r *rand.Rand, d api.Fs, b api.Box) api.Fs {
	switch r.Intn(9) {
	case 0, 1, 2, 3:
		m := pick(r, someBox().Messages...)
		d, _, _ = store.Do(d, api.Change{Kind: api.ChangeAppend, Flags: m.Flags, Inner: m.Inner, Raw: m.Raw})
	case 4:
		if len(b.Messages) > 0 {
			uid := is(pick(r, b.Messages...).Uid)
			d, _, _ = store.Do(d, api.Change{Kind: api.ChangeAdd, Uids: uid, Flags: api.FlagDeleted})
			d, _, _ = store.Do(d, api.Change{Kind: api.ChangeExpunge, Uids: uid})
		}
	case 5:
		d, _, _ = store.Do(d, api.Change{Kind: api.ChangeSelect})
	case 6, 7:
		d, _, _ = index.Flush(d)
	default:
		d, _, _ = index.Merge(d, 2)
	}
	return d
}

// 25.3, 25.4: of an index on a disk
func TestBetweenAndExact(t *testing.T) {
	r := rand.New(rand.NewSource(3))
	between := 0
	for range 25 {
		d, _ := disk.Make(api.MaxRoom)
		d, errno := store.Make(d, 4)
		for range 30 {
			b, _ := store.Load(d)
			d = step(r, d, b)
			v, loaded := index.Load(d)
			if errno != api.OK || loaded != api.OK || plan.Check(v) != api.OK {
				t.Fatalf("Make: %d, Load: %d, Check: %d", errno, loaded, plan.Check(v))
			}
			for i := range 6 {
				texts := i%2 == 0
				k := keyOf(r, 1+r.Intn(4), texts)
				found, _ := sat.Search(k, v.Box)
				first, second, errno := plan.Bounds(k, v)
				if errno != api.OK || !within(first, found) || !within(found, second) {
					t.Fatalf("%v of %v: %v, %v, %d, and found %v", k, v, first, second, errno, found)
				}
				if cost, _ := plan.Cost(k, v); !texts && (!slices.Equal(first, found) || !slices.Equal(found, second) || cost != 0) {
					t.Fatalf("%v has no text: %v, %v, found %v, cost %d", k, first, second, found, cost)
				}
				if len(first) < len(found) && len(found) < len(second) {
					between++
				}
			}
		}
	}
	if between < 50 {
		t.Errorf("only %d searches have found something between two lists", between)
	}
}

// within tells whether a list that rises has all of another one, that rises, too.
func within(l, other []uint32) bool {
	return slices.IsSortedFunc(l, func(a, b uint32) int { return cmp.Compare(a, b) }) && !slices.ContainsFunc(l, func(n uint32) bool { return !slices.Contains(other, n) })
}

// The example of the chapter.
func TestExample(t *testing.T) {
	bounded(t, "KeyText of ab", text("ab"), some(), nil, all)
}
