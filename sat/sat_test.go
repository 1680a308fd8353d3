package sat_test

import (
	"fmt"
	"math"
	"math/rand"
	"reflect"
	"runtime"
	"slices"
	"strings"
	"testing"
	"unsafe"

	"missive/api"
	"missive/box"
	"missive/key"
	"missive/mail"
	"missive/sat"
)

// The signatures that the chapter lists.
var (
	_ func(api.Key, api.Box, uint32) (bool, api.Errno) = sat.Match
	_ func(api.Key, api.Box) ([]uint32, api.Errno)     = sat.Search
	_ func(api.Box, []uint32) ([]int, api.Errno)       = sat.Places
)

// Short ways to make keys by hand.
var (
	every  = api.Key{Kind: api.KeyAll}
	recent = api.Key{Kind: api.KeyRecent}
	seen   = flag(api.FlagSeen)
)

func flag(f api.Flag) api.Key                 { return api.Key{Kind: api.KeyFlag, Flags: f} }
func field(name, text string) api.Key         { return api.Key{Kind: api.KeyField, Name: name, Text: text} }
func body(s string) api.Key                   { return api.Key{Kind: api.KeyBody, Text: s} }
func text(s string) api.Key                   { return api.Key{Kind: api.KeyText, Text: s} }
func day(kind api.KeyKind, d int) api.Key     { return api.Key{Kind: kind, Day: d} }
func size(kind api.KeyKind, n uint32) api.Key { return api.Key{Kind: kind, N: n} }
func uids(l ...uint32) api.Key                { return api.Key{Kind: api.KeyUids, Set: spans(l...)} }
func places(l ...uint32) api.Key              { return api.Key{Kind: api.KeyPlaces, Set: spans(l...)} }
func not(k api.Key) api.Key                   { return api.Key{Kind: api.KeyNot, Kids: []api.Key{k}} }
func or(l ...api.Key) api.Key                 { return api.Key{Kind: api.KeyOr, Kids: l} }
func and(l ...api.Key) api.Key                { return api.Key{Kind: api.KeyAnd, Kids: l} }

// spans are of two numbers each.
func spans(ends ...uint32) []api.Span {
	var l []api.Span
	for i := 0; i < len(ends); i += 2 {
		l = append(l, api.Span{From: ends[i], To: ends[i+1]})
	}
	return l
}

// feb5 is the day of "5 Feb 96".
const feb5 = 9531

// some tells a box with gaps: the mails 2, 3, 7, 8 and 20, at the places 1 to 5.
func some() api.Box {
	return api.Box{Validity: 9, Next: 30, Mark: 7, Last: 21, Messages: []api.Message{
		{Uid: 2, Flags: api.FlagSeen, Inner: api.Time{Day: 10, Second: 86399, Zone: 5999}, Raw: "Subject: Hello\nDate: 5 Feb 96\nFrom: =?utf-8?q?=C3=89t=C3=A9?= <a@b>\n\nWorld"},
		{Uid: 3, Flags: api.FlagSeen | api.FlagDraft, Inner: api.Time{Day: 11, Zone: -5999}, Raw: "Subject: other\nDate: 6 Feb 96\nTo: Anna\n\nHELLO Subject"},
		{Uid: 7, Flags: api.FlagAll, Inner: api.Time{Day: 12}, Raw: "Date: no day\nDate: 5 Feb 96\nsubject: one\nSUBJECT: two Hello\n\n"},
		{Uid: 8, Inner: api.Time{Day: -1}, Raw: ""},
		{Uid: 20, Flags: api.FlagDeleted, Inner: api.Time{Day: 11}, Raw: "Date: 4 Feb 1996\nContent-Type: text/plain; charset=latin1\n\n\xc9\xe9 STRASSE \xb5"},
	}}
}

// all are the numbers of some's mails.
var all = []uint32{2, 3, 7, 8, 20}

// others are those of some's mails that are not among these.
func others(of ...uint32) []uint32 {
	return slices.DeleteFunc(slices.Clone(all), func(n uint32) bool { return slices.Contains(of, n) })
}

// finding is a key, and what it finds in some.
type finding struct {
	key   api.Key
	finds []uint32
}

// findings has each kind, and the edges of each.
func findings() map[string]finding {
	l := map[string]finding{
		"all": {every, all}, "recent": {recent, []uint32{8, 20}},
		"seen": {seen, []uint32{2, 3, 7}}, "draft": {flag(api.FlagDraft), []uint32{3, 7}}, "deleted": {flag(api.FlagDeleted), []uint32{7, 20}}, "answered": {flag(api.FlagAnswered), []uint32{7}}, "flagged": {flag(api.FlagFlagged), []uint32{7}},
		"two flags": {flag(api.FlagSeen | api.FlagDraft), []uint32{3, 7}}, "two flags of which one mail has both": {flag(api.FlagDeleted | api.FlagSeen), []uint32{7}}, "all flags": {flag(api.FlagAll), []uint32{7}},

		"a field": {field("Subject", "hello"), []uint32{2, 7}}, "a field in small letters": {field("subject", "ell"), []uint32{2, 7}}, "a field in great ones": {field("SUBJECT", "t"), []uint32{3, 7}},
		"a second field": {field("subject", "two"), []uint32{7}}, "another field": {field("to", "ann"), []uint32{3}}, "a field that there is not": {field("cc", ""), nil}, "a field of any text": {field("subject", ""), []uint32{2, 3, 7}}, "a field's name": {field("subject", "subject"), nil},
		"a text in no such field": {field("from", "hello"), nil}, "a word in a field": {field("from", "\xc3\xa9t\xc3\xa9 <"), []uint32{2}}, "a part of a name": {field("subjec", "hello"), nil}, "across two fields": {field("subject", "onetwo"), nil},
		"a body": {body("world"), []uint32{2}}, "a body that is folded": {body("hello"), []uint32{3}}, "a header's text in the body": {body("subject:"), nil}, "a body of any text": {body(""), []uint32{2, 3, 20}}, "a body in a charset": {body("\xc3\xa9\xc3\xa9 strasse \xce\xbc"), []uint32{20}},
		"a text": {text("hello"), []uint32{2, 3, 7}}, "a field's line": {text("subject: o"), []uint32{3, 7}}, "a text in the body": {text("world"), []uint32{2}}, "any text": {text(""), []uint32{2, 3, 7, 20}}, "a text that there is not": {text("nothing"), nil}, "a text across": {text("hello\n"), nil},
		"a text that is not folded": {text("HeLLo"), []uint32{2, 3, 7}}, "a body that is asked in great letters": {body("WORLD"), []uint32{2}}, "a field that is asked in great letters": {field("From", "\xc3\x89T\xc3\x89"), []uint32{2}}, "a text that folds to another letter": {text("\xc2\xb5"), []uint32{20}}, "a text that is no UTF-8": {text("\xff"), nil},

		"before the first": {day(api.KeyBefore, -1), nil}, "before one more": {day(api.KeyBefore, 0), []uint32{8}}, "before 11": {day(api.KeyBefore, 11), []uint32{2, 8}}, "before 12": {day(api.KeyBefore, 12), []uint32{2, 3, 8, 20}}, "before the last day": {day(api.KeyBefore, api.MaxDay), all}, "before the first day": {day(api.KeyBefore, api.MinDay), nil},
		"on 9": {day(api.KeyOn, 9), nil}, "on 10": {day(api.KeyOn, 10), []uint32{2}}, "on 11": {day(api.KeyOn, 11), []uint32{3, 20}}, "on -1": {day(api.KeyOn, -1), []uint32{8}},
		"since 10": {day(api.KeySince, 10), []uint32{2, 3, 7, 20}}, "since 11": {day(api.KeySince, 11), []uint32{3, 7, 20}}, "since 12": {day(api.KeySince, 12), []uint32{7}}, "since 13": {day(api.KeySince, 13), nil}, "since the first day": {day(api.KeySince, api.MinDay), all},
		"sent before": {day(api.KeySentBefore, feb5), []uint32{20}}, "sent before one less": {day(api.KeySentBefore, feb5-1), nil}, "sent before one more": {day(api.KeySentBefore, feb5+1), []uint32{2, 20}}, "sent before the last day": {day(api.KeySentBefore, api.MaxDay), []uint32{2, 3, 20}},
		"sent on": {day(api.KeySentOn, feb5), []uint32{2}}, "sent on one less": {day(api.KeySentOn, feb5-1), []uint32{20}}, "sent on one more": {day(api.KeySentOn, feb5+1), []uint32{3}}, "sent on 0": {day(api.KeySentOn, 0), nil},
		"sent since": {day(api.KeySentSince, feb5), []uint32{2, 3}}, "sent since one less": {day(api.KeySentSince, feb5-1), []uint32{2, 3, 20}}, "sent since one more": {day(api.KeySentSince, feb5+1), []uint32{3}}, "sent since the first day": {day(api.KeySentSince, api.MinDay), []uint32{2, 3, 20}}, "sent since 0": {day(api.KeySentSince, 0), []uint32{2, 3, 20}},
		"not sent since the first day": {not(day(api.KeySentSince, api.MinDay)), []uint32{7, 8}},

		"larger than 0": {size(api.KeyLarger, 0), others(8)}, "smaller than 0": {size(api.KeySmaller, 0), nil}, "smaller than 1": {size(api.KeySmaller, 1), []uint32{8}}, "larger than the greatest": {size(api.KeyLarger, math.MaxUint32), nil}, "smaller than the greatest": {size(api.KeySmaller, math.MaxUint32), all},

		"uid 3": {uids(3, 3), []uint32{3}}, "uid of none": {uids(4, 6), nil}, "uids that fall": {uids(8, 3), []uint32{3, 7, 8}}, "uid of a star": {uids(0, 0), []uint32{20}}, "uids up to a star": {uids(7, 0), []uint32{7, 8, 20}}, "uids from a star above": {uids(25, 0), []uint32{20}}, "uids above": {uids(21, 29), nil}, "two spans": {uids(2, 2, 7, 9), []uint32{2, 7, 8}}, "uid 1 is the star's none": {uids(1, 1), nil}, "all uids": {uids(1, math.MaxUint32), all},
		"place 1": {places(1, 1), []uint32{2}}, "place 5": {places(5, 5), []uint32{20}}, "place of a star": {places(0, 0), []uint32{20}}, "places up to a star": {places(4, 0), []uint32{8, 20}}, "places from a star above": {places(9, 0), []uint32{20}}, "places above": {places(6, 30), nil}, "places that fall": {places(3, 2), []uint32{3, 7}}, "two spans of places": {places(5, 5, 1, 2), []uint32{2, 3, 20}}, "place 20": {places(20, 20), nil}, "place 7": {places(7, 7, 8, 8), nil},

		"not": {not(seen), []uint32{8, 20}}, "not all": {not(every), nil}, "not none": {not(uids(4, 6)), all}, "not not": {not(not(seen)), []uint32{2, 3, 7}}, "not recent": {not(recent), []uint32{2, 3, 7}},
		"or": {or(uids(2, 2), uids(20, 20)), []uint32{2, 20}}, "or of three": {or(uids(2, 2), uids(4, 4), uids(20, 20)), []uint32{2, 20}}, "or of none": {or(uids(4, 4), uids(5, 5)), nil}, "or of the first": {or(seen, uids(4, 4), uids(5, 5)), []uint32{2, 3, 7}}, "or of the last": {or(uids(4, 4), uids(5, 5), seen), []uint32{2, 3, 7}},
		"and": {and(seen, uids(3, 8)), []uint32{3, 7}}, "and of three": {and(seen, uids(3, 8), flag(api.FlagDeleted)), []uint32{7}}, "and of none": {and(seen, recent), nil}, "and of all": {and(every, every), all}, "and that fails first": {and(uids(4, 4), every, every), nil}, "and that fails last": {and(every, every, uids(4, 4)), nil},
		"new":          {and(recent, not(seen)), []uint32{8, 20}},
		"or, not, and": {or(and(seen, not(field("from", "a"))), and(recent, body("strasse"))), []uint32{3, 7, 20}}, "not of and": {not(and(seen, recent)), all}, "not of or": {not(or(recent, flag(api.FlagDraft))), []uint32{2}},
	}
	for _, m := range some().Messages {
		n := uint32(len(m.Raw))
		here := func(is func(other uint32) bool) []uint32 {
			var found []uint32
			for _, other := range some().Messages {
				if is(uint32(len(other.Raw))) {
					found = append(found, other.Uid)
				}
			}
			return found
		}
		for _, n := range []uint32{n, n + 1, max(n, 1) - 1} {
			l[fmt.Sprintf("larger than %d", n)] = finding{size(api.KeyLarger, n), here(func(other uint32) bool { return other > n })}
			l[fmt.Sprintf("smaller than %d", n)] = finding{size(api.KeySmaller, n), here(func(other uint32) bool { return other < n })}
		}
	}
	return l
}

// finds sees that a search tells these numbers, and that each mail is told alike.
func finds(t *testing.T, what string, k api.Key, b api.Box, want ...uint32) {
	t.Helper()
	if got, errno := sat.Search(k, b); !slices.Equal(got, want) || errno != api.OK {
		t.Errorf("%s: Search = %v, %d, not %v", what, got, errno, want)
	}
	for _, m := range b.Messages {
		if got, errno := sat.Match(k, b, m.Uid); got != slices.Contains(want, m.Uid) || errno != api.OK {
			t.Errorf("%s: Match of %d = %t, %d", what, m.Uid, got, errno)
		}
	}
}

// 24.1
func TestSearchAndMatch(t *testing.T) {
	empty, _ := box.Make(9)
	met := map[api.KeyKind]bool{}
	for what, f := range findings() {
		if errno := key.Check(f.key); errno != api.OK {
			t.Fatalf("%s is not right: %d", what, errno)
		}
		met[f.key.Kind] = true
		finds(t, what, f.key, some(), f.finds...)
		finds(t, what+", in a box without mails", f.key, empty)
		finds(t, "not "+what, not(f.key), some(), others(f.finds...)...)
	}
	for kind := api.KeyAll; kind < api.KeyCount; kind++ {
		if !met[kind] {
			t.Errorf("no key of kind %d was asked", kind)
		}
	}
}

// 24.1: a mail is recent, if its number is above Mark.
func TestRecent(t *testing.T) {
	for mark := range uint32(22) {
		b := some()
		b.Mark = mark
		want := slices.DeleteFunc(slices.Clone(all), func(n uint32) bool { return n <= mark })
		finds(t, fmt.Sprintf("Mark %d", mark), recent, b, want...)
		fromBox, _ := box.Recent(b)
		if !slices.Equal(fromBox, want) {
			t.Errorf("Mark %d: Recent tells %v", mark, fromBox)
		}
	}
}

// 24.1: the greatest numbers that there may be.
func TestTheGreatestNumber(t *testing.T) {
	b := api.Box{Validity: 1, Next: api.MaxUid + 1, Mark: api.MaxUid - 1, Last: api.MaxUid, Messages: []api.Message{{Uid: 1, Inner: api.Time{Day: api.MinDay}}, {Uid: api.MaxUid, Inner: api.Time{Day: api.MaxDay}, Raw: strings.Repeat("x", api.MaxMail)}}}
	finds(t, "recent", recent, b, api.MaxUid)
	finds(t, "a star", uids(0, 0), b, api.MaxUid)
	finds(t, "the number", uids(math.MaxUint32, math.MaxUint32), b, api.MaxUid)
	finds(t, "a place's star", places(0, 0), b, api.MaxUid)
	finds(t, "the place", places(2, 2), b, api.MaxUid)
	finds(t, "before the last day", day(api.KeyBefore, api.MaxDay), b, 1)
	finds(t, "on the last day", day(api.KeyOn, api.MaxDay), b, api.MaxUid)
	finds(t, "on the first day", day(api.KeyOn, api.MinDay), b, 1)
	finds(t, "larger", size(api.KeyLarger, api.MaxMail-1), b, api.MaxUid)
	finds(t, "larger than all", size(api.KeyLarger, api.MaxMail), b)
}

// wrongBoxes are boxes that are not right, in each way.
func wrongBoxes() map[string]api.Box {
	l := map[string]api.Box{"zero": {}}
	change := func(what string, do func(b *api.Box)) {
		b := some()
		do(&b)
		l[what] = b
	}
	change("no Validity", func(b *api.Box) { b.Validity = 0 })
	change("no Next", func(b *api.Box) { b.Next = 0 })
	change("Next at a number", func(b *api.Box) { b.Next = 20 })
	change("Next too great", func(b *api.Box) { b.Next = api.MaxUid + 2 })
	change("Mark above Last", func(b *api.Box) { b.Mark = b.Last + 1 })
	change("Last at Next", func(b *api.Box) { b.Last = 30 })
	change("numbers that fall", func(b *api.Box) { b.Messages[0], b.Messages[1] = b.Messages[1], b.Messages[0] })
	change("a number twice", func(b *api.Box) { b.Messages[1].Uid = 2 })
	change("the number 0", func(b *api.Box) { b.Messages[0].Uid = 0 })
	change("a flag that is none", func(b *api.Box) { b.Messages[4].Flags = api.FlagAll + 1 })
	change("no time", func(b *api.Box) { b.Messages[2].Inner.Day = api.MaxDay + 1 })
	change("too many bytes", func(b *api.Box) { b.Messages[3].Raw = strings.Repeat("x", api.MaxMail+1) })
	change("too many mails", func(b *api.Box) {
		b.Messages = make([]api.Message, api.MaxMails+1)
		for i := range b.Messages {
			b.Messages[i].Uid = uint32(i + 1)
		}
		b.Next = api.MaxMails + 9
	})
	return l
}

// wrongKeys are keys that are not right, in some ways.
func wrongKeys() map[string]api.Key {
	deep := every
	for range api.MaxDepth {
		deep = not(deep)
	}
	self := make([]api.Key, 2)
	self[0], self[1] = api.Key{Kind: api.KeyOr, Kids: self}, every
	return map[string]api.Key{
		"zero": {}, "KeyCount": {Kind: api.KeyCount}, "no flag": flag(0), "no such flag": flag(32), "no name": field("", "a"), "a name that is none": field("a:", "a"), "no set": uids(), "a day too late": day(api.KeyOn, api.MaxDay+1),
		"not of none": {Kind: api.KeyNot}, "or of one": or(every), "and of none": and(), "a wrong kid": or(every, api.Key{}), "all with a text": {Kind: api.KeyAll, Text: "a"},
		"too deep": deep, "too many": and(slices.Repeat([]api.Key{every}, api.MaxKeys)...), "within itself": self[0], "too many spans": {Kind: api.KeyPlaces, Set: make([]api.Span, api.MaxSpans+1)},
	}
}

// 24.1, 24.2, P2, P3
func TestWhatIsNotRight(t *testing.T) {
	numbers := []uint32{0, 1, 2, 20, 30, math.MaxUint32}
	see := func(what string, k api.Key, b api.Box) {
		t.Helper()
		if got, errno := sat.Search(k, b); len(got) != 0 || errno != api.ErrForm {
			t.Errorf("%s: Search = %v, %d, not ErrForm alone", what, got, errno)
		}
		for _, uid := range numbers {
			if got, errno := sat.Match(k, b, uid); got || errno != api.ErrForm {
				t.Errorf("%s: Match of %d = %t, %d, not ErrForm alone", what, uid, got, errno)
			}
		}
	}
	for what, k := range wrongKeys() {
		see(what, k, some())
		see(what+", and a wrong box", k, api.Box{})
		see(what+", and a box without mails", k, api.Box{Validity: 1, Next: 1})
	}
	for what, b := range wrongBoxes() {
		see(what, every, b)
		see(what, not(seen), b)
		for _, l := range [][]uint32{nil, {2}, {1}, numbers} {
			if got, errno := sat.Places(b, l); len(got) != 0 || errno != api.ErrForm {
				t.Errorf("%s: Places of %v = %v, %d, not ErrForm alone", what, l, got, errno)
			}
		}
	}
}

// 24.1, P2
func TestMatchOfNoMail(t *testing.T) {
	for _, k := range []api.Key{every, not(every), seen, text("hello"), uids(4, 4)} {
		for _, uid := range []uint32{0, 1, 4, 6, 9, 19, 21, 29, 30, math.MaxUint32} {
			if got, errno := sat.Match(k, some(), uid); got || errno != api.ErrNone {
				t.Errorf("Match of %d = %t, %d, not ErrNone alone", uid, got, errno)
			}
		}
		if got, errno := sat.Match(k, api.Box{Validity: 1, Next: 9}, 1); got || errno != api.ErrNone {
			t.Errorf("Match in a box without mails = %t, %d, not ErrNone alone", got, errno)
		}
	}
}

// 24.2, P2
func TestPlaces(t *testing.T) {
	for i, x := range []struct {
		uids []uint32
		want []int
	}{
		{nil, nil}, {[]uint32{}, nil}, {[]uint32{2}, []int{1}}, {[]uint32{20}, []int{5}}, {all, []int{1, 2, 3, 4, 5}}, {[]uint32{20, 2, 8}, []int{5, 1, 4}}, {[]uint32{7, 7, 2, 7}, []int{3, 3, 1, 3}},
	} {
		if got, errno := sat.Places(some(), x.uids); !slices.Equal(got, x.want) || errno != api.OK {
			t.Errorf("%d: Places of %v = %v, %d, not %v", i, x.uids, got, errno, x.want)
		}
	}
	for _, l := range [][]uint32{{0}, {1}, {4}, {21}, {30}, {math.MaxUint32}, {2, 3, 4}, {4, 2, 3}, {2, 2, 19, 2}} {
		if got, errno := sat.Places(some(), l); len(got) != 0 || errno != api.ErrNone {
			t.Errorf("Places of %v = %v, %d, not ErrNone alone", l, got, errno)
		}
	}
	empty := api.Box{Validity: 1, Next: 1}
	if got, errno := sat.Places(empty, nil); len(got) != 0 || errno != api.OK {
		t.Errorf("Places of no numbers in a box without mails = %v, %d", got, errno)
	}
	if got, errno := sat.Places(empty, []uint32{1}); len(got) != 0 || errno != api.ErrNone {
		t.Errorf("Places of a number in a box without mails = %v, %d", got, errno)
	}
}

// 24.2: many numbers, of many mails, that come again and again.
func TestPlacesOfMany(t *testing.T) {
	b := api.Box{Validity: 1, Next: 3*api.MaxMails + 1}
	for i := range api.MaxMails {
		b.Messages = append(b.Messages, api.Message{Uid: uint32(3*i + 1), Inner: api.Time{Day: i}})
	}
	var numbers []uint32
	var want []int
	r := rand.New(rand.NewSource(1))
	for range 1 << 20 {
		i := r.Intn(api.MaxMails)
		numbers, want = append(numbers, uint32(3*i+1)), append(want, i+1)
	}
	if got, errno := sat.Places(b, numbers); !slices.Equal(got, want) || errno != api.OK {
		t.Errorf("places of very many numbers are wrong: %d", errno)
	}
	numbers[len(numbers)-1]++
	if got, errno := sat.Places(b, numbers); len(got) != 0 || errno != api.ErrNone {
		t.Errorf("%d places, %d, though the last number is no mail's", len(got), errno)
	}
	finds(t, "the place of a star", places(0, 0), api.Box{Validity: 1, Next: b.Next, Messages: b.Messages[api.MaxMails-3:]}, uint32(3*api.MaxMails-2))
}

// pick tells one of some.
func pick[T any](r *rand.Rand, l ...T) T {
	return l[r.Intn(len(l))]
}

// keyOf makes a right key of at most so many levels.
func keyOf(r *rand.Rand, levels int) api.Key {
	what := r.Intn(4)
	if levels < 2 || what == 0 {
		return leaf(r)
	}
	if what == 1 {
		return not(keyOf(r, levels-1))
	}
	var kids []api.Key
	for range 2 + r.Intn(2) {
		kids = append(kids, keyOf(r, levels-1))
	}
	return api.Key{Kind: pick(r, api.KeyOr, api.KeyAnd), Kids: kids}
}

// leaf makes one without kids.
func leaf(r *rand.Rand) api.Key {
	word := pick(r, "", "hello", "a", "Hello", "e", "\xc3\xa9", "o w", "zzz", ": ")
	switch r.Intn(8) {
	case 0:
		return flag(api.Flag(1 + r.Intn(int(api.FlagAll))))
	case 1:
		return field(pick(r, "Subject", "FROM", "date", "x"), word)
	case 2:
		return pick(r, body(word), text(word))
	case 3:
		return day(pick(r, api.KeyBefore, api.KeyOn, api.KeySince), pick(r, -1, 0, 9, 10, 11, 12))
	case 4:
		return day(pick(r, api.KeySentBefore, api.KeySentOn, api.KeySentSince), pick(r, 0, feb5-1, feb5, feb5+1))
	case 5:
		return size(pick(r, api.KeyLarger, api.KeySmaller), uint32(r.Intn(90)))
	case 6:
		return pick(r, uids, places)(uint32(r.Intn(22)), uint32(r.Intn(9)), uint32(r.Intn(22)), 2)
	}
	return pick(r, every, recent)
}

// boxOf makes a right box.
func boxOf(r *rand.Rand) api.Box {
	b := api.Box{Validity: 3, Next: 1}
	for range r.Intn(9) {
		m := pick(r, some().Messages...)
		m.Uid = uint32(b.Next) + uint32(r.Intn(3))
		m.Flags = api.Flag(r.Intn(int(api.FlagAll) + 1))
		b.Next = uint64(m.Uid) + 1
		b.Messages = append(b.Messages, m)
	}
	b.Last = uint32(r.Intn(int(b.Next)))
	b.Mark = uint32(r.Intn(int(b.Last) + 1))
	return b
}

// model tells what a key finds, by sets: each kind's is made by the chapter's words.
func model(k api.Key, b api.Box) map[uint32]bool {
	found := map[uint32]bool{}
	var kids []map[uint32]bool
	for _, kid := range k.Kids {
		kids = append(kids, model(kid, b))
	}
	for i, m := range b.Messages {
		d := mail.Read(m.Raw)
		what := strings.ToLower(k.Text)
		greatest := b.Messages[len(b.Messages)-1].Uid
		is := false
		switch k.Kind {
		case api.KeyAll:
			is = true
		case api.KeyFlag:
			is = k.Flags&^m.Flags == 0
		case api.KeyRecent:
			is = m.Uid > b.Mark
		case api.KeyField:
			is = mail.InField(d, k.Name, what)
		case api.KeyBody:
			is = mail.InBody(d, what)
		case api.KeyText:
			is = mail.InText(d, what)
		case api.KeyBefore, api.KeyOn, api.KeySince:
			is = isDay(k.Kind-api.KeyBefore, m.Inner.Day, k.Day)
		case api.KeySentBefore, api.KeySentOn, api.KeySentSince:
			is = d.Dated && isDay(k.Kind-api.KeySentBefore, d.Day, k.Day)
		case api.KeyLarger:
			is = d.Size > int(k.N)
		case api.KeySmaller:
			is = d.Size < int(k.N)
		case api.KeyUids:
			is = isOne(k.Set, greatest, m.Uid)
		case api.KeyPlaces:
			is = isOne(k.Set, uint32(len(b.Messages)), uint32(i+1))
		default:
			is = ofKids(k.Kind, kids, m.Uid)
		}
		if is {
			found[m.Uid] = true
		}
	}
	return found
}

// isDay is of the first, the second, or the third kind of a day.
func isDay(kind api.KeyKind, it, asked int) bool {
	return []bool{it < asked, it == asked, it >= asked}[kind]
}

// isOne tells whether n is one of a set's numbers.
func isOne(set []api.Span, most, n uint32) bool {
	for _, s := range set {
		if s.From == 0 {
			s.From = most
		}
		if s.To == 0 {
			s.To = most
		}
		if n >= min(s.From, s.To) && n <= max(s.From, s.To) {
			return true
		}
	}
	return false
}

// ofKids counts the kids that find a mail.
func ofKids(kind api.KeyKind, kids []map[uint32]bool, uid uint32) bool {
	many := 0
	for _, found := range kids {
		if found[uid] {
			many++
		}
	}
	switch kind {
	case api.KeyNot:
		return many == 0
	case api.KeyOr:
		return many > 0
	}
	return many == len(kids)
}

// numbers are a model's, rising.
func numbers(found map[uint32]bool) []uint32 {
	var l []uint32
	for n := range found {
		l = append(l, n)
	}
	slices.Sort(l)
	return l
}

// 24.1, 24.4, 24.5, P4
func TestManySearches(t *testing.T) {
	ahead := runtime.NumGoroutine()
	r := rand.New(rand.NewSource(2))
	something := 0
	for range 3000 {
		k, b := keyOf(r, 1+r.Intn(4)), boxOf(r)
		want := numbers(model(k, b))
		finds(t, fmt.Sprint(k), k, b, want...)
		plain, errno := key.Plain(k)
		if errno != api.OK {
			t.Fatalf("Plain(%v): %d", k, errno)
		}
		finds(t, fmt.Sprint("plain ", k), plain, b, want...)
		if t.Failed() {
			t.FailNow()
		}
		if len(want) > 0 && len(want) < len(b.Messages) {
			something++
		}
	}
	if something < 500 {
		t.Errorf("only %d searches have found some, and not all", something)
	}
	if behind := runtime.NumGoroutine(); behind > ahead { // fewer, if that of an earlier test was just ending
		t.Errorf("%d goroutines ahead, %d behind", ahead, behind)
	}
}

// 24.4
func TestSets(t *testing.T) {
	r := rand.New(rand.NewSource(3))
	search := func(k api.Key, b api.Box) []uint32 {
		l, errno := sat.Search(k, b)
		if errno != api.OK || !slices.IsSorted(l) {
			t.Fatalf("Search of %v: %v, %d", k, l, errno)
		}
		return l
	}
	for range 2000 {
		x, y, b := keyOf(r, 3), keyOf(r, 3), boxOf(r)
		first, second := search(x, b), search(y, b)
		in := func(l []uint32, n uint32) bool { return slices.Contains(l, n) }
		for _, m := range b.Messages {
			n := m.Uid
			if in(search(not(x), b), n) == in(first, n) {
				t.Fatalf("KeyNot of %v: %d", x, n)
			}
			if in(search(and(x, y), b), n) != (in(first, n) && in(second, n)) {
				t.Fatalf("KeyAnd of %v and %v: %d", x, y, n)
			}
			if in(search(or(x, y), b), n) != (in(first, n) || in(second, n)) {
				t.Fatalf("KeyOr of %v and %v: %d", x, y, n)
			}
		}
	}
}

// ownKey copies a key, all of it.
func ownKey(k api.Key) api.Key {
	k.Name, k.Text, k.Set, k.Kids = strings.Clone(k.Name), strings.Clone(k.Text), slices.Clone(k.Set), slices.Clone(k.Kids)
	for i, kid := range k.Kids {
		k.Kids[i] = ownKey(kid)
	}
	return k
}

// where tells at which address a list begins.
func where[T any](l []T) uintptr {
	return uintptr(unsafe.Pointer(unsafe.SliceData(l)))
}

// 24.3
func TestAnswersAreNewMemory(t *testing.T) {
	k := or(and(text("HELLO"), not(body("WORLD"))), uids(1, 0), field("Subject", "TWO"))
	b, asked := some(), []uint32{20, 2}
	givenKey, givenBox := ownKey(k), some()
	first, _ := sat.Search(k, b)
	second, _ := sat.Search(k, b)
	if len(first) == 0 || where(first) == where(second) {
		t.Errorf("two answers of Search share memory, or there is nothing found: %v", first)
	}
	places, _ := sat.Places(b, asked)
	others, _ := sat.Places(b, asked)
	if where(places) == where(others) || where(places) == where(asked) {
		t.Errorf("two answers of Places share memory")
	}
	_, _ = sat.Match(k, b, 2)
	if !reflect.DeepEqual(k, givenKey) || !reflect.DeepEqual(b, givenBox) || !slices.Equal(asked, []uint32{20, 2}) {
		t.Errorf("what is handed in was changed: %v, %v, %v", k, b, asked)
	}
	want, wantPlaces := slices.Clone(second), slices.Clone(others)
	clear(first)
	clear(places)
	clear(b.Messages)
	clear(asked)
	if !slices.Equal(second, want) || !slices.Equal(others, wantPlaces) {
		t.Errorf("what is handed in, or was told earlier, is to be seen in an answer: %v, %v", second, others)
	}
}

// The example of the chapter.
func TestExample(t *testing.T) {
	finds(t, "the mails that are not seen", not(flag(api.FlagSeen)), some(), 8, 20)
}
