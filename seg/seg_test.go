package seg_test

import (
	"math"
	"math/rand"
	"runtime"
	"slices"
	"strings"
	"testing"
	"unsafe"

	"missive/api"
	"missive/dict"
	"missive/mail"
	"missive/post"
	"missive/rec"
	"missive/seg"
)

// The signatures that the chapter lists.
var (
	_ func([]api.Item) api.Errno                 = seg.Check
	_ func(api.Item) (string, api.Errno)         = seg.Encode
	_ func(string) (api.Item, api.Errno)         = seg.Decode
	_ func(...api.Item) (string, api.Errno)      = seg.Build
	_ func(string) ([]api.Item, api.Errno)       = seg.Open
	_ func(string, uint64) ([]uint32, api.Errno) = seg.Lookup
	_ func([]api.Item, ...uint64) []uint32       = seg.Seek
)

const nine = "\xff\xff\xff\xff\xff\xff\xff\xff\xff"

// list is for short writing.
func list(l ...string) []string {
	return l
}

// body makes an item of a number and texts of its body.
func body(uid uint32, texts ...string) api.Item {
	return api.Item{Uid: uid, Doc: api.Doc{Body: texts}}
}

// bodies makes so many items, whose numbers rise from that one on.
func bodies(from uint32, many int, texts ...string) []api.Item {
	l := make([]api.Item, many)
	for i := range l {
		l[i] = body(from+uint32(i), texts...)
	}
	return l
}

// full is an item that has something of everything.
var full = api.Item{Uid: 300, Inner: -2, Doc: api.Doc{
	Size: 64, Day: 9531, Dated: true,
	Names:  list("subject", "", "x"),
	Values: list("\u00e9t\u00e9", "no name", ""),
	Body:   list("hello world", "", "\xff\x00", "ab"),
}}

// same takes nil and empty lists as alike.
func same(a, b api.Item) bool {
	c, d := a.Doc, b.Doc
	return a.Uid == b.Uid && a.Inner == b.Inner && c.Size == d.Size && c.Day == d.Day && c.Dated == d.Dated && slices.Equal(c.Names, d.Names) && slices.Equal(c.Values, d.Values) && slices.Equal(c.Body, d.Body)
}

// sameAll is same of each.
func sameAll(a, b []api.Item) bool {
	return slices.EqualFunc(a, b, same)
}

// shares tells whether two texts have a byte of memory together.
func shares(a, b string) bool {
	if a == "" || b == "" {
		return false
	}
	x, y := uintptr(unsafe.Pointer(unsafe.StringData(a))), uintptr(unsafe.Pointer(unsafe.StringData(b)))
	return x < y+uintptr(len(b)) && y < x+uintptr(len(a))
}

// part is that of a text of three letters.
func part(text string) uint64 {
	l := []rune(text)
	return uint64(l[0])<<42 + uint64(l[1])<<21 + uint64(l[2])
}

// number tells a number's bytes.
func number(n uint64) string {
	var b []byte
	for ; n > 127; n /= 128 {
		b = append(b, byte(n%128+128))
	}
	return string(append(b, byte(n)))
}

// even tells the bytes of a number's even form.
func even(n int) string {
	if n < 0 {
		return number(uint64(-(n+1))*2 + 1)
	}
	return number(uint64(n) * 2)
}

// sized tells a text's bytes behind how many these are.
func sized(s string) string {
	return number(uint64(len(s))) + s
}

// pieces tells the bytes of an item, one piece a number or a text, just as the chapter words it.
func pieces(x api.Item) []string {
	dated := "\x00"
	if x.Doc.Dated {
		dated = "\x01"
	}
	l := list(number(uint64(x.Uid)), even(x.Inner), even(x.Doc.Size), even(x.Doc.Day), dated, number(uint64(len(x.Doc.Names))))
	for i, name := range x.Doc.Names {
		l = append(l, sized(name), sized(x.Doc.Values[i]))
	}
	l = append(l, number(uint64(len(x.Doc.Body))))
	for _, text := range x.Doc.Body {
		l = append(l, sized(text))
	}
	return l
}

// plainItem tells an item's bytes.
func plainItem(x api.Item) string {
	return strings.Join(pieces(x), "")
}

// gramsOf gathers a document's parts in a set.
func gramsOf(d api.Doc) map[uint64]bool {
	texts := slices.Clone(d.Body)
	for i := range min(len(d.Names), len(d.Values)) {
		texts = append(texts, d.Names[i]+": "+d.Values[i])
	}
	set := map[uint64]bool{}
	for _, text := range texts {
		l := []rune(text)
		for i := 0; i+2 < len(l); i++ {
			set[uint64(l[i])<<42+uint64(l[i+1])<<21+uint64(l[i+2])] = true
		}
	}
	return set
}

// plainTable tells the table of items, whatever their order, and however many parts there are.
func plainTable(l []api.Item) string {
	uids := map[uint64][]uint32{}
	for _, x := range l {
		for gram := range gramsOf(x.Doc) {
			uids[gram] = append(uids[gram], x.Uid)
		}
	}
	var keys []uint64
	for gram := range uids {
		keys = append(keys, gram)
	}
	slices.Sort(keys)
	var heads, data strings.Builder
	least := uint64(0)
	for _, key := range keys {
		slices.Sort(uids[key])
		packed, _ := post.Pack(slices.Compact(uids[key]))
		heads.WriteString(number(key-least) + number(uint64(len(packed))))
		data.WriteString(packed)
		least = key + 1
	}
	return number(uint64(len(keys))) + heads.String() + data.String()
}

// first tells a segment's first record.
func first(many uint64) string {
	return "SEG" + number(many)
}

// plainRecords tells the records of a segment of items, whatever they are.
func plainRecords(l []api.Item) []string {
	records := list(first(uint64(len(l))), plainTable(l))
	for _, x := range l {
		records = append(records, plainItem(x))
	}
	return records
}

// join frames records that are not too long.
func join(t *testing.T, records ...string) string {
	t.Helper()
	s, errno := rec.Join(records...)
	if errno != api.OK {
		t.Fatalf("Join of %d records: %d", len(records), errno)
	}
	return s
}

// mustBuild tells a segment of items that are right.
func mustBuild(t *testing.T, l ...api.Item) string {
	t.Helper()
	s, errno := seg.Build(l...)
	if errno != api.OK {
		t.Fatalf("Build of %d items: %d", len(l), errno)
	}
	return s
}

// 15.1
func TestItemsAreEncodedAndDecoded(t *testing.T) {
	least, most := "\xff"+nine[1:]+"\x01", "\xfe"+nine[1:]+"\x01"
	for _, c := range []struct {
		x api.Item
		s string
	}{
		{api.Item{Uid: 1}, "\x01\x00\x00\x00\x00\x00\x00"},
		{api.Item{Uid: 7, Inner: -1, Doc: api.Doc{Size: 9, Names: list("a"), Values: list("b"), Body: list("abc")}}, "\x07\x01\x12\x00\x00\x01\x01a\x01b\x01\x03abc"},
		{api.Item{Uid: 300, Inner: 1, Doc: api.Doc{Size: 2, Day: 3, Dated: true}}, "\xac\x02\x02\x04\x06\x01\x00\x00"},
		{api.Item{Uid: 1, Inner: 64, Doc: api.Doc{Size: -65, Day: 150}}, "\x01\x80\x01\x81\x01\xac\x02\x00\x00\x00"},
		{api.Item{Uid: api.MaxUid, Inner: -1, Doc: api.Doc{Size: -2, Day: -3}}, "\xff\xff\xff\xff\x0f\x01\x03\x05\x00\x00\x00"},
		{api.Item{Uid: 2, Inner: math.MaxInt, Doc: api.Doc{Size: math.MinInt, Day: math.MaxInt, Dated: true}}, "\x02" + most + least + most + "\x01\x00\x00"},
		{api.Item{Uid: 2, Inner: math.MinInt, Doc: api.Doc{Size: math.MaxInt, Day: math.MinInt}}, "\x02" + least + most + least + "\x00\x00\x00"},
		{api.Item{Uid: 1, Inner: api.MinDay, Doc: api.Doc{Day: api.MaxDay}}, "\x01" + number(2*719162-1) + "\x00" + number(2*2932896) + "\x00\x00\x00"},
		// empty names, values and texts
		{api.Item{Uid: 1, Doc: api.Doc{Names: list(""), Values: list("")}}, "\x01\x00\x00\x00\x00\x01\x00\x00\x00"},
		{api.Item{Uid: 1, Doc: api.Doc{Names: list("n", ""), Values: list("", "v")}}, "\x01\x00\x00\x00\x00\x02\x01n\x00\x00\x01v\x00"},
		{body(1, ""), "\x01\x00\x00\x00\x00\x00\x01\x00"},
		{body(1, "", "", ""), "\x01\x00\x00\x00\x00\x00\x03\x00\x00\x00"},
		{body(1, "a", "", "bc"), "\x01\x00\x00\x00\x00\x00\x03\x01a\x00\x02bc"},
		{api.Item{Uid: 1, Doc: api.Doc{Names: list(), Values: nil, Body: list()}}, "\x01\x00\x00\x00\x00\x00\x00"},
		// any bytes, and many
		{body(1, "\x00\xff\x80"), "\x01\x00\x00\x00\x00\x00\x01\x03\x00\xff\x80"},
		{body(1, strings.Repeat("x", 300)), "\x01\x00\x00\x00\x00\x00\x01\xac\x02" + strings.Repeat("x", 300)},
		{body(1, make([]string, 300)...), "\x01\x00\x00\x00\x00\x00\xac\x02" + strings.Repeat("\x00", 300)},
		{api.Item{Uid: 1, Doc: api.Doc{Names: make([]string, 128), Values: make([]string, 128)}}, "\x01\x00\x00\x00\x00\x80\x01" + strings.Repeat("\x00", 256) + "\x00"},
		{full, plainItem(full)},
	} {
		if s, errno := seg.Encode(c.x); s != c.s || errno != api.OK {
			t.Errorf("Encode(%v) = %x, %d, not %x", c.x, s, errno, c.s)
		}
		if x, errno := seg.Decode(c.s); !same(x, c.x) || errno != api.OK {
			t.Errorf("Decode(%x) = %v, %d, not %v", c.s, x, errno, c.x)
		}
	}
	long := body(1, strings.Repeat("x", 2*api.MaxData)) // no record is asked for here
	s, errno := seg.Encode(long)
	if x, again := seg.Decode(s); errno != api.OK || again != api.OK || !same(x, long) {
		t.Errorf("an item of %d bytes: %d, and back %d", len(s), errno, again)
	}
}

// wrong are items that are not right.
var wrong = []api.Item{
	{},
	{Doc: full.Doc},
	{Uid: 1, Doc: api.Doc{Names: list("a")}},
	{Uid: 1, Doc: api.Doc{Values: list("a")}},
	{Uid: 1, Doc: api.Doc{Names: list("a", "b"), Values: list("a")}},
	{Uid: 1, Doc: api.Doc{Names: list("a"), Values: list("a", "b")}},
	{Uid: 1, Doc: api.Doc{Names: list(""), Values: list()}},
	{Uid: api.MaxUid, Doc: api.Doc{Names: list(), Values: list("")}},
	{Doc: api.Doc{Names: list("a")}},
}

// 15.1, 15.2, P2
func TestItemsThatAreNotRight(t *testing.T) {
	for _, x := range wrong {
		if s, errno := seg.Encode(x); s != "" || errno != api.ErrForm {
			t.Errorf("Encode(%v) = %x, %d, not ErrForm alone", x, s, errno)
		}
		refused(t, "one that is not right", []api.Item{x}, api.ErrForm)
		refused(t, "the last is not right", []api.Item{body(1), body(2), x}, api.ErrForm)
		refused(t, "the first is not right", []api.Item{x, body(5), body(6)}, api.ErrForm)
	}
}

// refused sees that Check and Build answer that error, and nothing else.
func refused(t *testing.T, name string, l []api.Item, want api.Errno) {
	t.Helper()
	if errno := seg.Check(l); errno != want {
		t.Errorf("Check, %s: %d, not %d", name, errno, want)
	}
	if s, errno := seg.Build(l...); s != "" || errno != want {
		t.Errorf("Build, %s: %d bytes, %d, not %d alone", name, len(s), errno, want)
	}
}

// 15.1, 15.2, P2, P3
func TestItemsOutOfOrderOrTooMany(t *testing.T) {
	most := bodies(1, api.MaxItems)
	more := func(x api.Item) []api.Item { return append(slices.Clone(most), x) }
	refused(t, "one Uid twice", []api.Item{body(3), body(3)}, api.ErrOrder)
	refused(t, "the greatest twice", []api.Item{body(api.MaxUid), body(api.MaxUid)}, api.ErrOrder)
	refused(t, "one below", []api.Item{body(3), body(2)}, api.ErrOrder)
	refused(t, "the last below the first", []api.Item{body(3), body(4), body(5), body(1)}, api.ErrOrder)
	refused(t, "the last twice", []api.Item{body(3), body(4), body(5), body(5)}, api.ErrOrder)
	refused(t, "1 behind the greatest", []api.Item{body(api.MaxUid), body(1)}, api.ErrOrder)
	refused(t, "out of order, and then not right", []api.Item{body(3), body(2), {}}, api.ErrForm)
	refused(t, "not right, and out of order", []api.Item{body(3), {Uid: 3, Doc: api.Doc{Names: list("a")}}}, api.ErrForm)
	refused(t, "one too many", more(body(api.MaxItems+1)), api.ErrLong)
	refused(t, "one too many, up to the greatest", bodies(api.MaxUid-api.MaxItems, api.MaxItems+1), api.ErrLong)
	refused(t, "one too many, and twice", more(body(api.MaxItems)), api.ErrOrder)
	refused(t, "one too many, and not right", more(api.Item{}), api.ErrForm)
	refused(t, "too many, all alike", slices.Repeat([]api.Item{body(9)}, api.MaxItems+1), api.ErrOrder)
	for _, l := range [][]api.Item{nil, {}, {body(1)}, {body(api.MaxUid)}, {body(1), body(2)}, {body(1), body(api.MaxUid)}, {full}, {body(299), full, body(301)}, most, bodies(api.MaxUid-api.MaxItems+1, api.MaxItems)} {
		if errno := seg.Check(l); errno != api.OK {
			t.Errorf("Check of %d items: %d", len(l), errno)
		}
		s, errno := seg.Build(l...)
		if errno != api.OK {
			t.Errorf("Build of %d items: %d", len(l), errno)
		}
		if back, errno := seg.Open(s); !sameAll(back, l) || errno != api.OK {
			t.Errorf("%d items are opened as %d, %d", len(l), len(back), errno)
		}
	}
}

// notItem sees that s is no item's bytes.
func notItem(t *testing.T, s string) {
	t.Helper()
	if x, errno := seg.Decode(s); !same(x, api.Item{}) || errno != api.ErrCode {
		t.Errorf("Decode(%x) = %v, %d, not ErrCode alone", s, x, errno)
	}
}

// 15.1, P2
func TestBytesThatAreNoItem(t *testing.T) {
	for _, s := range []string{
		"", "\x00", "\x01", "\x80", nine,
		"\x00\x00\x00\x00\x00\x00\x00",                      // Uid 0
		number(1<<32) + "\x00\x00\x00\x00\x00\x00",          // a Uid above the greatest
		number(1<<32+1) + "\x00\x00\x00\x00\x00\x00",        // likewise
		number(math.MaxUint64) + "\x00\x00\x00\x00\x00\x00", // likewise
		nine + "\x02\x00\x00\x00\x00\x00\x00",               // no number
		"\x01\x00\x00\x00\x02\x00\x00",                      // a Dated of 2
		"\x01\x00\x00\x00\xff\x00\x00",                      // no Dated at all
		"\x01\x00\x00\x00\x81\x02\x00\x00",                  // a Dated of two bytes
		"\x01\x00\x00\x00\x80\x02\x00\x00",                  // likewise
		"\x01\x00\x00\x00" + number(1<<32) + "\x00\x00",     // one that is 0 in 32 bits
		"\x01\x00\x00\x00" + number(1<<32+1) + "\x00\x00",   // one that is 1
		"\x01\x00\x00\x00\x00\x01\x00",                      // counts that do not fit
		"\x01\x00\x00\x00\x00\x01\x01a\x00",
		"\x01\x00\x00\x00\x00\x01\x01a\x01b",
		"\x01\x00\x00\x00\x00\x00\x01",
		"\x01\x00\x00\x00\x00\x00\x02\x00",
		"\x01\x00\x00\x00\x00\x00\x00\x00",
		"\x01\x00\x00\x00\x00\x00\x01\x00\x00",
		"\x01\x00\x00\x00\x00\x02\x01a\x01b\x00",
		"\x01\x00\x00\x00\x00\x00\x01\x02a", // sizes that do not fit
		"\x01\x00\x00\x00\x00\x00\x01\x01",
		"\x01\x00\x00\x00\x00\x00\x01\x01ab",
		"\x01\x00\x00\x00\x00\x01\x01a\x09b\x00",
		"\x01\x00\x00\x00\x00" + number(math.MaxUint64) + "\x00\x00", // counts that are lies
		"\x01\x00\x00\x00\x00\x00" + number(math.MaxUint64) + "\x00\x00",
		"\x01\x00\x00\x00\x00" + number(1<<63) + strings.Repeat("\x00", 50),
		"\x01\x00\x00\x00\x00\x00" + number(1<<32) + strings.Repeat("\x00", 50),
		"\x01\x00\x00\x00\x00\x00\x01" + number(math.MaxUint64) + "abc", // a size that is one
		"\x01\x00\x00\x00\x00\x00\x01" + number(1<<63) + "abc",
		"\x01\x00\x00\x00\x00\x00\x01" + number(1<<32) + "abc",
		"\x01\x00\x00\x00\x00\x00\x02" + number(math.MaxUint64) + "\x01abc",
	} {
		notItem(t, s)
	}
}

// 15.1, P2
func TestItemsThatAreToldInAnotherWay(t *testing.T) {
	for _, x := range []api.Item{full, {Uid: 1}, body(200, "a", strings.Repeat("b", 200)), {Uid: 7, Inner: -1000, Doc: api.Doc{Size: 1000, Day: -1, Names: list("a"), Values: list("b"), Body: list("abc")}}} {
		all := pieces(x)
		s := strings.Join(all, "")
		for cut := range len(s) {
			notItem(t, s[:cut])
		}
		for _, behind := range []string{"\x00", "\x01", "a", nine, s} {
			notItem(t, s+behind)
		}
		for i, piece := range all {
			end := 0 // of the piece's number
			for piece[end] >= 128 {
				end++
			}
			longer := piece[:end] + string([]byte{piece[end] | 128}) + "\x00" + piece[end+1:]
			notItem(t, strings.Join(all[:i], "")+longer+strings.Join(all[i+1:], ""))
			notItem(t, strings.Join(all[:i], "")+strings.Join(all[i+1:], "")) // without it
		}
	}
}

// 15.2
func TestSegmentsAreBuilt(t *testing.T) {
	three := "\x01" + number(part("abc")) // one entry, of abc
	for name, c := range map[string]struct {
		l       []api.Item
		records []string
	}{
		"no item":                {nil, list("SEG\x00", "\x00")},
		"one without letters":    {bodies(1, 1), list("SEG\x01", "\x00", "\x01\x00\x00\x00\x00\x00\x00")},
		"fewer than three":       {bodies(1, 1, "ab", "", "c"), list("SEG\x01", "\x00", "\x01\x00\x00\x00\x00\x00\x03\x02ab\x00\x01c")},
		"one part":               {bodies(7, 1, "abc"), list("SEG\x01", three+"\x04\x01\x07\x01\x00", "\x07\x00\x00\x00\x00\x00\x01\x03abc")},
		"one part twice":         {bodies(7, 1, "abc", "abc"), list("SEG\x01", three+"\x04\x01\x07\x01\x00", "\x07\x00\x00\x00\x00\x00\x02\x03abc\x03abc")},
		"one part of two items":  {bodies(7, 2, "abc"), list("SEG\x02", three+"\x05\x02\x07\x02\x01\x00", "\x07\x00\x00\x00\x00\x00\x01\x03abc", "\x08\x00\x00\x00\x00\x00\x01\x03abc")},
		"parts of several items": {[]api.Item{body(2, "abd"), body(9, "abc"), body(300, "abcabd")}, nil},
		"a field's line":         {[]api.Item{{Uid: 1, Doc: api.Doc{Names: list("a"), Values: list("b")}}}, list("SEG\x01", "\x02"+number(part(": b"))+"\x04"+number(part("a: ")-part(": b")-1)+"\x04"+"\x01\x01\x01\x00\x01\x01\x01\x00", "\x01\x00\x00\x00\x00\x01\x01a\x01b\x00")},
		"all of it":              {[]api.Item{body(299, "hello", "\u00e9t\u00e9"), full, body(api.MaxUid, "yellow")}, nil},
		"a mail":                 {[]api.Item{{Uid: 5, Inner: 9531, Doc: mail.Read("Subject: =?utf-8?q?=C3=89t=C3=A9?=\nDate: 5 Feb 96\n\nHELLO World")}}, nil},
		"bytes of no letter":     {bodies(1, 2, "\xff\xfe\xfd", "a\xffb"), nil},
		"several blocks":         {bodies(100, 3*api.BlockSize+1, "abc", "bcd"), nil},
	} {
		want := plainRecords(c.l)
		if c.records != nil && !slices.Equal(want, c.records) {
			t.Errorf("%s: the test's own records are %x, not %x", name, want, c.records)
		}
		s, errno := seg.Build(c.l...)
		if s != join(t, want...) || errno != api.OK {
			t.Errorf("%s: %x, %d, not %x", name, s, errno, join(t, want...))
		}
		if l, errno := seg.Open(s); !sameAll(l, c.l) || errno != api.OK {
			t.Errorf("%s: opened as %v, %d", name, l, errno)
		}
	}
}

// texts tells so many texts of three letters, each of them another part; side by side they are keys side by side.
func texts(from rune, many int) []string {
	l := make([]string, many)
	for i := range l {
		l[i] = "ab" + string(from+rune(i))
	}
	return l
}

// 15.2, P2
func TestMostEntries(t *testing.T) {
	l := texts(0x10000, api.MaxEntries+1)
	half := api.MaxEntries / 2
	for name, items := range map[string][]api.Item{
		"one item":   {body(1, l[1:]...)},
		"two items":  {body(1, l[1:half]...), body(2, l[half:]...)},
		"some twice": {body(1, l[1:half]...), body(2, l[half-9:]...)},
	} {
		s := mustBuild(t, items...)
		if back, errno := seg.Open(s); !sameAll(back, items) || errno != api.OK {
			t.Errorf("%s with MaxEntries parts: %d, %d", name, len(back), errno)
		}
		if uids, errno := seg.Lookup(s, part(l[len(l)-1])); !slices.Equal(uids, []uint32{uint32(len(items))}) || errno != api.OK {
			t.Errorf("%s with MaxEntries parts: the last one's are %d, %d", name, uids, errno)
		}
		items[0].Doc.Body = l[:half]
		if len(items) == 1 {
			items[0].Doc.Body = l
		}
		if s, errno := seg.Build(items...); s != "" || errno != api.ErrLong {
			t.Errorf("%s with one part more: %d bytes, %d", name, len(s), errno)
		}
		if table := plainTable(items); len(table) > api.MaxData {
			t.Errorf("the table has %d bytes: the test asks something else", len(table))
		}
		if back, errno := seg.Open(join(t, plainRecords(items)...)); len(back) != 0 || errno != api.ErrCode {
			t.Errorf("%s with one part more: opened as %d, %d", name, len(back), errno)
		}
	}
}

// 15.2, P2
func TestAnItemsRecordIsTooLong(t *testing.T) {
	x := body(1, strings.Repeat("x", api.MaxData-7-3)) // three bytes tell how many these are
	if s, _ := seg.Encode(x); len(s) != api.MaxData {
		t.Fatalf("%d bytes: the test asks something else", len(s))
	}
	for _, l := range [][]api.Item{{x}, {x, body(2)}} {
		s := mustBuild(t, l...)
		if back, errno := seg.Open(s); !sameAll(back, l) || errno != api.OK {
			t.Errorf("MaxData bytes are opened as %d, %d", len(back), errno)
		}
	}
	y := body(2, x.Doc.Body[0]+"x")
	for _, l := range [][]api.Item{{y}, {body(1), y}, {y, body(3)}, {x, y}, {body(1, strings.Repeat("x", 3*api.MaxData))}} {
		if s, errno := seg.Build(l...); s != "" || errno != api.ErrLong {
			t.Errorf("one byte more: %d bytes, %d", len(s), errno)
		}
	}
	refused(t, "too long, and out of order", []api.Item{y, x}, api.ErrOrder)
	refused(t, "too long, and not right", []api.Item{y, {}}, api.ErrForm)
}

// 15.2, P2
func TestATablesRecordIsTooLong(t *testing.T) {
	const from, base = 0x10000, 900
	items := bodies(1, 1000, texts(from, base)...)
	table := plainTable(items)
	left := api.MaxData - len(table)
	sevens := left % 6 // a part of the item of Uid 1 has six bytes, that of Uid 200 seven
	sixes := (left - 7*sevens) / 6
	if sixes < 1 || base+sixes+sevens >= 1<<14 { // how many entries there are is told in two bytes
		t.Fatalf("%d bytes are left: the test can't tell them", left)
	}
	more := texts(from+base, sixes+sevens+1)
	put := func(i int, l ...string) { items[i].Doc.Body = slices.Concat(texts(from, base), l) }
	put(0, more[:sixes]...)
	put(199, more[sixes:sixes+sevens]...)
	s := mustBuild(t, items...)
	if records, _ := rec.All(s); len(records[1]) != api.MaxData {
		t.Fatalf("the table has %d bytes: the test asks something else", len(records[1]))
	}
	if back, errno := seg.Open(s); !sameAll(back, items) || errno != api.OK {
		t.Errorf("a table of MaxData bytes is opened as %d, %d", len(back), errno)
	}
	if uids, errno := seg.Lookup(s, part(more[sixes-1])); !slices.Equal(uids, []uint32{1}) || errno != api.OK {
		t.Errorf("in a table of MaxData bytes are %d, %d", uids, errno)
	}
	put(0, more[:sixes-1]...)
	put(199, more[sixes-1:sixes+sevens]...) // one part is of the other item: one byte more
	if table := plainTable(items); len(table) != api.MaxData+1 {
		t.Fatalf("the table has %d bytes: the test asks something else", len(table))
	}
	if s, errno := seg.Build(items...); s != "" || errno != api.ErrLong {
		t.Errorf("a table of one byte more: %d bytes, %d", len(s), errno)
	}
	if s, errno := seg.Build(bodies(1, api.MaxItems, texts(from, 3000)...)...); s != "" || errno != api.ErrLong {
		t.Errorf("a table of many bytes more: %d bytes, %d", len(s), errno)
	}
}

// notSegment sees that s is no segment.
func notSegment(t *testing.T, name, s string) {
	t.Helper()
	if l, errno := seg.Open(s); len(l) != 0 || errno != api.ErrCode {
		t.Errorf("%s: Open tells %d items, %d, not ErrCode alone", name, len(l), errno)
	}
}

// segments are some of few items.
var segments = [][]api.Item{
	nil,
	{body(1)},
	{body(7, "abc")},
	{body(2, "abd"), body(9, "abc"), body(300, "abcabd")},
	{body(299, "hello"), full, body(api.MaxUid, "yellow")},
}

// 15.2, P2
func TestSegmentsThatAreCutOrTurned(t *testing.T) {
	for _, l := range segments {
		s := mustBuild(t, l...)
		for cut := range len(s) {
			notSegment(t, "cut", s[:cut])
		}
		for _, behind := range []string{"\x00", "S", s, join(t, "abc"), join(t, ""), join(t, plainItem(body(api.MaxUid)))} {
			notSegment(t, "with bytes behind it", s+behind)
			notSegment(t, "with bytes ahead of it", behind+s)
		}
		for at := range len(s) {
			for _, turn := range []byte{1, 128, 255} {
				b := []byte(s)
				b[at] ^= turn
				notSegment(t, "with a byte turned", string(b))
			}
		}
	}
	for _, s := range []string{"", "S", "SEG", "SEG\x00", "SEG\x00\x00", nine, nine + nine, join(t), join(t, ""), join(t, "", ""), join(t, "SEG\x00"), join(t, "SEG\x00", ""), join(t, "SEG\x00\x00")} {
		notSegment(t, "bytes that are none", s)
	}
}

// 15.2, P2
func TestSegmentsWithOtherRecords(t *testing.T) {
	for _, l := range segments {
		records := plainRecords(l)
		with := func(at int, record string) []string {
			other := slices.Clone(records)
			other[at] = record
			return other
		}
		for i, record := range records {
			notSegment(t, "cut behind a record", join(t, records[:i]...))
			notSegment(t, "without one", join(t, slices.Delete(slices.Clone(records), i, i+1)...))
			notSegment(t, "with one twice", join(t, slices.Insert(slices.Clone(records), i, record)...))
			notSegment(t, "with one more", join(t, slices.Insert(slices.Clone(records), i, "")...))
			notSegment(t, "with one that is empty", join(t, with(i, "")...))
			notSegment(t, "with one that is longer", join(t, with(i, record+"\x00")...))
			notSegment(t, "with one that is shorter", join(t, with(i, record[:len(record)-1])...))
		}
		many := uint64(len(l))
		for _, head := range list(first(many+1), first(many-1), first(many+128), first(many+1<<32), "SEG", "SEG"+string([]byte{byte(many) | 128})+"\x00", "seg"+number(many), "SEH"+number(many), "S"+number(many), number(many), " SEG"+number(many)) {
			notSegment(t, "with another first record", join(t, with(0, head)...))
		}
		for _, other := range append(segments, []api.Item{body(8, "abc")}, []api.Item{body(7, "abd")}, []api.Item{body(7, "abcd")}) {
			if table := plainTable(other); table != records[1] {
				notSegment(t, "with another table", join(t, with(1, table)...))
			}
		}
	}
	if s := join(t, plainRecords(segments[3])...); s != mustBuild(t, segments[3]...) {
		t.Error("the test's own segment is another one: the test asks something else")
	}
}

// 15.2, P2
func TestSegmentsOfWrongItems(t *testing.T) {
	most := bodies(1, api.MaxItems+1)
	for name, l := range map[string][]api.Item{
		"Uid 0":               {body(0, "abc")},
		"Uid 0 ahead":         {body(0, "abc"), body(1, "abc")},
		"one Uid twice":       {body(3, "abc"), body(3, "abc")},
		"out of order":        {body(4, "abc"), body(3, "abd")},
		"the last one below":  {body(1), body(5), body(6), body(2)},
		"more than MaxItems":  most,
		"many more":           bodies(1, 2*api.MaxItems, "abc"),
		"more, and one twice": append(slices.Clone(most), body(api.MaxItems)),
	} {
		notSegment(t, name, join(t, plainRecords(l)...))
	}
	if l, errno := seg.Open(join(t, plainRecords(most[1:])...)); !sameAll(l, most[1:]) || errno != api.OK {
		t.Errorf("MaxItems items are opened as %d, %d", len(l), errno)
	}
}

// lookedUp sees what Lookup answers, and that there is nothing beside an error.
func lookedUp(t *testing.T, name, s, letters string, want []uint32, wantErrno api.Errno) {
	t.Helper()
	if uids, errno := seg.Lookup(s, part(letters)); !slices.Equal(uids, want) || errno != wantErrno {
		t.Errorf("%s: %q is looked up as %d, %d, not %d, %d", name, letters, uids, errno, want, wantErrno)
	}
}

// 15.2
func TestLookup(t *testing.T) {
	l := []api.Item{body(2, "abd"), body(9, "abc", "\u00e9t\u00e9"), body(300, "abcabd"), {Uid: api.MaxUid, Doc: api.Doc{Names: list("abc"), Values: list("x")}}}
	records := plainRecords(l)
	two := join(t, records[:2]...)
	for name, s := range map[string]string{
		"whole":                   mustBuild(t, l...),
		"no items":                two,
		"one item":                join(t, records[:3]...),
		"items that are none":     join(t, records[0], records[1], "", "x", nine),
		"other items":             join(t, append(slices.Clone(records[:2]), plainRecords(segments[4])[2:]...)...),
		"a record that is cut":    join(t, records[:3]...)[:len(two)+2],
		"bytes that are none":     two + nine + nine,
		"many bytes":              two + strings.Repeat("x", 5*api.MaxData),
		"another count":           join(t, first(9), records[1]),
		"a count of 0":            join(t, first(0), records[1]),
		"a count above MaxItems":  join(t, first(api.MaxItems+1), records[1]),
		"the greatest count":      join(t, first(math.MaxUint64), records[1]),
		"the count's sign turned": join(t, first(1<<63), records[1], "x"),
	} {
		lookedUp(t, name, s, "abc", []uint32{9, 300, api.MaxUid}, api.OK)
		lookedUp(t, name, s, "abd", []uint32{2, 300}, api.OK)
		lookedUp(t, name, s, "\u00e9t\u00e9", []uint32{9}, api.OK)
		lookedUp(t, name, s, ": x", []uint32{api.MaxUid}, api.OK)
		lookedUp(t, name, s, "abe", nil, api.OK)
		lookedUp(t, name, s, "abb", nil, api.OK)
		lookedUp(t, name, s, "\x00\x00\x00", nil, api.OK)
		if uids, errno := seg.Lookup(s, math.MaxUint64); len(uids) != 0 || errno != api.OK {
			t.Errorf("%s: of no part %d, %d is told", name, uids, errno)
		}
	}
	lookedUp(t, "no item", mustBuild(t), "abc", nil, api.OK)
	lookedUp(t, "no letters", mustBuild(t, bodies(1, 5)...), "abc", nil, api.OK)
}

// 15.2, P2
func TestLookupRefuses(t *testing.T) {
	records := plainRecords([]api.Item{body(2, "abd"), body(9, "abc")})
	table := records[1]
	both := join(t, records[:2]...)
	cases := map[string]string{
		"one record":                   join(t, records[0]),
		"none":                         "",
		"no records":                   nine,
		"the second alone":             join(t, table),
		"the two turned round":         join(t, table, records[0]),
		"one ahead":                    join(t, "", records[0], table),
		"one between":                  join(t, records[0], "", table),
		"an empty first one":           join(t, "", table),
		"no count":                     join(t, "SEG", table),
		"a count that is cut":          join(t, "SEG\x80", table),
		"a count in more bytes":        join(t, "SEG\x82\x00", table),
		"a count that is too great":    join(t, "SEG"+nine+"\x02", table),
		"bytes behind the count":       join(t, "SEG\x02\x00", table),
		"many bytes behind it":         join(t, "SEG\x02"+nine+nine, table),
		"another mark":                 join(t, "SEH\x02", table),
		"a mark in small letters":      join(t, "seg\x02", table),
		"a mark that is cut":           join(t, "SE", table),
		"no mark":                      join(t, "\x02", table),
		"no table":                     join(t, records[0], ""),
		"a table that is cut":          join(t, records[0], table[:len(table)-1]),
		"a byte behind the table":      join(t, records[0], table+"\x00"),
		"bytes behind the table":       join(t, records[0], table+table),
		"a count in the table":         join(t, records[0], "\x03"+table[1:]),
		"a byte behind an empty table": join(t, records[0], "\x00\x00"),
		"too many entries":             join(t, records[0], number(api.MaxEntries+1)+strings.Repeat("\x00", 2*api.MaxEntries+2)),
		"a key in more bytes":          join(t, records[0], "\x01\x80\x00\x00"),
	}
	for name, s := range cases {
		lookedUp(t, name, s, "abc", nil, api.ErrCode)
		lookedUp(t, name, s, "xyz", nil, api.ErrCode)
		lookedUp(t, name, s+join(t, records[2]), "abc", nil, api.ErrCode)
	}
	for cut := range len(both) {
		lookedUp(t, "cut", both[:cut], "abc", nil, api.ErrCode)
		lookedUp(t, "cut", both[:cut], "xyz", nil, api.ErrCode)
	}
	for at := range len(both) {
		b := []byte(both)
		b[at] ^= 1
		lookedUp(t, "a byte turned", string(b), "abc", nil, api.ErrCode)
	}
}

// 15.2, P2
func TestLookupInDataThatAreNoList(t *testing.T) {
	good, _ := post.Pack([]uint32{3, 5})
	for _, c := range []struct {
		data  string
		uids  []uint32
		errno api.Errno
	}{
		{good, []uint32{3, 5}, api.OK},
		{"\x00", nil, api.OK},                            // a list without numbers
		{"\x01\x00\x01\x00", []uint32{0}, api.OK},        // a number that no item has
		{"\x02\x00\x02\x01\x00", []uint32{0, 1}, api.OK}, // likewise
		{"", nil, api.ErrCode},
		{good + "\x00", nil, api.ErrCode},
		{good + good, nil, api.ErrCode},
		{"\x00\x00", nil, api.ErrCode},
		{good[:len(good)-1], nil, api.ErrCode},
		{"\x02\x03\x02\x00", nil, api.ErrCode},
		{"\x01\x03\x02\x00", nil, api.ErrCode},
		{"\x01\x83\x00\x01\x00", nil, api.ErrCode},
		{number(api.MaxList + 1), nil, api.ErrCode},
		{nine, nil, api.ErrCode},
	} {
		table, _ := dict.Write(api.Entry{Key: part("abb"), Data: good}, api.Entry{Key: part("abc"), Data: c.data}, api.Entry{Key: part("abd"), Data: good})
		s := join(t, "SEG\x01", table)
		lookedUp(t, "its data", s, "abc", c.uids, c.errno)
		lookedUp(t, "the data ahead", s, "abb", []uint32{3, 5}, api.OK) // others are not asked
		lookedUp(t, "the data behind", s, "abd", []uint32{3, 5}, api.OK)
		lookedUp(t, "no data", s, "abe", nil, api.OK)
		notSegment(t, "a table of its own", s)
	}
}

// 15.3
func TestSeek(t *testing.T) {
	l := []api.Item{
		body(9, "abcd"),
		body(2, "abc", "bcd"),
		body(2, "ab", "cd"), // no part stands across two texts
		{Doc: api.Doc{Names: list("abc"), Values: list("d")}},
		{Uid: 4, Doc: api.Doc{Names: list("abc", "no value"), Values: list("d")}},
		{Uid: 5, Doc: api.Doc{Names: list("x"), Values: list("", "abc")}},
		body(api.MaxUid, "\u00e9t\u00e9", "abc\xff"),
		body(9, "abd"),
	}
	for _, c := range []struct {
		letters []string
		want    []uint32
	}{
		{nil, []uint32{9, 2, 2, 0, 4, 5, api.MaxUid, 9}},
		{list("abc"), []uint32{9, 2, 0, 4, api.MaxUid}},
		{list("abc", "abc"), []uint32{9, 2, 0, 4, api.MaxUid}},
		{list("bcd"), []uint32{9, 2}},
		{list("abc", "bcd"), []uint32{9, 2}},
		{list("bcd", "abc", "bcd"), []uint32{9, 2}},
		{list("abd"), []uint32{9}},
		{list("abc", "abd"), nil}, // each has some, none has all
		{list(": d"), []uint32{0, 4}},
		{list("c: ", "abc"), []uint32{0, 4}},
		{list("x: "), []uint32{5}},
		{list("val"), nil}, // a name without a value is no field
		{list("\u00e9t\u00e9"), []uint32{api.MaxUid}},
		{list("bc\ufffd"), []uint32{api.MaxUid}},
		{list("ABC"), nil},
		{list("xyz"), nil},
		{list("abc", "xyz"), nil},
	} {
		var parts []uint64
		for _, text := range c.letters {
			parts = append(parts, part(text))
		}
		if uids := seg.Seek(l, parts...); !slices.Equal(uids, c.want) {
			t.Errorf("Seek of %q tells %d, not %d", c.letters, uids, c.want)
		}
		if uids := seg.Seek(nil, parts...); len(uids) != 0 {
			t.Errorf("Seek of %q in no items tells %d", c.letters, uids)
		}
	}
	for _, none := range []uint64{0, 1, 5, math.MaxUint64, 1 << 63} {
		if uids := seg.Seek(l, none); len(uids) != 0 {
			t.Errorf("Seek of %d tells %d", none, uids)
		}
	}
}

// allTexts tells those of an item.
func allTexts(x api.Item) []string {
	return slices.Concat(x.Doc.Names, x.Doc.Values, x.Doc.Body)
}

// long is an item whose texts are long enough to have memory of their own.
func long() api.Item {
	text := func(c string) string { return strings.Repeat(c, 40) }
	return api.Item{Uid: 7, Doc: api.Doc{Names: list(text("n"), text("m")), Values: list(text("v"), text("w")), Body: list(text("a"), text("b"), "c")}}
}

// 15.4
func TestAnswersAreNewMemory(t *testing.T) {
	given := long()
	encoded, _ := seg.Encode(given)
	again, _ := seg.Encode(given)
	built, rebuilt := mustBuild(t, given), mustBuild(t, given)
	memory := append(allTexts(given), encoded, again, built, rebuilt)
	for range 2 {
		x, _ := seg.Decode(encoded)
		l, _ := seg.Open(built)
		memory = append(memory, allTexts(x)...)
		memory = append(memory, allTexts(l[0])...)
	}
	for i := range memory {
		for j := range i {
			if shares(memory[i], memory[j]) {
				t.Errorf("texts %d and %d share their memory", j, i)
			}
		}
	}
	if !same(given, long()) {
		t.Errorf("what is handed in is changed to %v", given)
	}
	x, _ := seg.Decode(encoded)
	l, _ := seg.Open(built)
	x.Doc.Names[0], l[0].Doc.Names[0], x.Doc.Body = "changed", "changed", append(x.Doc.Body, "more")
	l[0].Doc.Body[0] = "changed"
	if x, _ := seg.Decode(encoded); !same(x, given) {
		t.Errorf("an item that was changed is decoded as %v", x)
	}
	if l, _ := seg.Open(built); !sameAll(l, []api.Item{given}) {
		t.Errorf("items that were changed are opened as %v", l)
	}
	gram := part("aaa")
	uids, _ := seg.Lookup(built, gram)
	sought := seg.Seek([]api.Item{given}, gram)
	uids[0], sought[0] = 1, 1
	if uids, _ := seg.Lookup(built, gram); !slices.Equal(uids, []uint32{7}) {
		t.Errorf("numbers that were changed are looked up as %d", uids)
	}
	if sought := seg.Seek([]api.Item{given}, gram); !slices.Equal(sought, []uint32{7}) {
		t.Errorf("numbers that were changed are sought as %d", sought)
	}
	parts := []uint64{part("vvv"), gram, gram}
	seg.Seek([]api.Item{given}, parts...)
	if !slices.Equal(parts, []uint64{part("vvv"), gram, gram}) {
		t.Errorf("parts that are handed in are changed to %d", parts)
	}
	given.Doc.Names[0], given.Doc.Body[0] = "changed", "changed"
	if encoded != plainItem(long()) || built != rebuilt {
		t.Error("what was handed in is kept")
	}
}

// 15.4: an answer's lists may be made longer, each by itself
func TestListsShareNothing(t *testing.T) {
	s, _ := seg.Encode(api.Item{Uid: 1, Doc: api.Doc{Names: list("a", "b", "c"), Values: list("d", "e", "f"), Body: list("g", "h", "i")}})
	x, _ := seg.Decode(s)
	_ = append(x.Doc.Names, "x", "y", "z")
	_ = append(x.Doc.Values, "x", "y", "z")
	if plainItem(x) != s {
		t.Errorf("lists that were made longer are %v", x)
	}
	l, _ := seg.Open(mustBuild(t, body(1, "abc", "abd"), body(2, "abe")))
	l[0].Doc.Body = append(l[0].Doc.Body, "x", "y", "z")
	if !same(l[1], body(2, "abe")) {
		t.Errorf("the item behind one that was made longer is %v", l[1])
	}
}

// randomText tells one of few letters, some of several bytes, some of none.
func randomText(r *rand.Rand) string {
	letters := list("a", "b", "c", "a", "b", " ", ":", "\u00e9", "\u20ac", "\U0001f600", "\xff", "\xc3")
	s := ""
	for range r.Intn(8) {
		s += letters[r.Intn(len(letters))]
	}
	return s
}

// randomNumber is often small, and may be any.
func randomNumber(r *rand.Rand) int {
	return int(int64(r.Uint64()) >> r.Intn(64))
}

// randomItem has that number.
func randomItem(r *rand.Rand, uid uint32) api.Item {
	x := api.Item{Uid: uid, Inner: randomNumber(r), Doc: api.Doc{Size: randomNumber(r), Day: randomNumber(r), Dated: r.Intn(2) == 0}}
	for range r.Intn(3) {
		x.Doc.Names = append(x.Doc.Names, randomText(r))
		x.Doc.Values = append(x.Doc.Values, randomText(r))
	}
	for range r.Intn(3) {
		x.Doc.Body = append(x.Doc.Body, randomText(r))
	}
	return x
}

// randomItems have numbers that rise.
func randomItems(r *rand.Rand, many int) []api.Item {
	var l []api.Item
	uid := uint32(0)
	width := r.Intn(20)
	for range many {
		uid += 1 + uint32(r.Intn(1<<width))
		l = append(l, randomItem(r, uid))
	}
	return l
}

// 15.2, 15.5, 15.6
func TestSegmentsThereAndBack(t *testing.T) {
	r := rand.New(rand.NewSource(1))
	for i := range 600 {
		many := r.Intn(12)
		if i%100 == 0 {
			many = 200
		}
		l := randomItems(r, many)
		s := mustBuild(t, l...)
		if s != join(t, plainRecords(l)...) {
			t.Fatalf("%v is built as %x", l, s)
		}
		if back, errno := seg.Open(s); !sameAll(back, l) || errno != api.OK {
			t.Fatalf("%v is built, and opened as %v, %d", l, back, errno)
		}
		found(t, r, l, s)
	}
}

// found holds what Lookup tells of parts that there are, and of others, against what Seek tells, and against a set of each document's parts.
func found(t *testing.T, r *rand.Rand, l []api.Item, s string) {
	t.Helper()
	var parts []uint64
	sets := make([]map[uint64]bool, len(l))
	for i, x := range l {
		sets[i] = gramsOf(x.Doc)
		for gram := range sets[i] {
			parts = append(parts, gram)
		}
	}
	slices.Sort(parts)
	parts = slices.Compact(parts)
	for _, part := range parts[:len(parts):len(parts)] {
		parts = append(parts, part+1, part-1, r.Uint64())
	}
	parts = append(parts, 0, math.MaxUint64)
	for _, part := range parts[:min(len(parts), 300)] {
		var want []uint32
		for i, x := range l {
			if sets[i][part] {
				want = append(want, x.Uid)
			}
		}
		if uids, errno := seg.Lookup(s, part); !slices.Equal(uids, want) || errno != api.OK {
			t.Fatalf("of %v, %x is looked up as %d, %d, not %d", l, part, uids, errno, want)
		}
		if uids := seg.Seek(l, part); !slices.Equal(uids, want) {
			t.Fatalf("of %v, %x is sought as %d, not %d", l, part, uids, want)
		}
	}
}

// 15.5: mails
func TestMailsThereAndBack(t *testing.T) {
	var l []api.Item
	for i, text := range list("", "\n", "A: b\n\nabc", "Subject: =?latin1?q?=C9t=E9?=\nDate: 1 Jan 0001\n\nHello", "Content-Type: multipart/mixed; boundary=b\n\n--b\n\nOne\n--b\n\nTwo\n--b--", "\xff\xfe") {
		l = append(l, api.Item{Uid: uint32(3*i + 1), Inner: -i, Doc: mail.Read(text)})
	}
	s := mustBuild(t, l...)
	if back, errno := seg.Open(s); !sameAll(back, l) || errno != api.OK {
		t.Errorf("mails are opened as %v, %d", back, errno)
	}
	for _, x := range l {
		for _, gram := range mail.Grams(x.Doc) {
			if uids, errno := seg.Lookup(s, gram); !slices.Equal(uids, seg.Seek(l, gram)) || !slices.Contains(uids, x.Uid) || errno != api.OK {
				t.Errorf("%x is looked up as %d, %d", gram, uids, errno)
			}
		}
	}
}

// spoil changes some bytes, cuts them out and puts some in.
func spoil(r *rand.Rand, s string) string {
	b := []byte(s)
	for range r.Intn(4) {
		if len(b) == 0 {
			break
		}
		at := r.Intn(len(b))
		switch r.Intn(6) {
		case 0:
			b[at] = byte(r.Intn(256))
		case 1:
			b[at] += byte(r.Intn(3) - 1)
		case 2:
			b = slices.Insert(b, at, byte(r.Intn(3)<<7))
		case 3:
			b = slices.Delete(b, at, at+1)
		case 4:
			b = b[:at+1]
		case 5:
			b = append(b, byte(r.Intn(3)))
		}
	}
	return string(b)
}

// plainDecode reads an item, and holds its bytes against s.
func plainDecode(s string) (api.Item, bool) {
	rest, short := s, false
	number := func() uint64 {
		n, factor := uint64(0), uint64(1)
		for i := range len(rest) {
			n += uint64(rest[i]%128) * factor
			if factor *= 128; rest[i] < 128 {
				rest = rest[i+1:]
				return n
			}
		}
		rest, short = "", true
		return 0
	}
	whole := func() int {
		n := number()
		return int(n/2) ^ -int(n%2)
	}
	sized := func() string {
		n := number()
		if n > uint64(len(rest)) {
			short, n = true, 0
		}
		text := rest[:n]
		rest = rest[n:]
		return text
	}
	x := api.Item{Uid: uint32(number()), Inner: whole()}
	x.Doc.Size, x.Doc.Day, x.Doc.Dated = whole(), whole(), number() == 1
	for n := number(); n > 0 && !short; n-- {
		x.Doc.Names = append(x.Doc.Names, sized())
		x.Doc.Values = append(x.Doc.Values, sized())
	}
	for n := number(); n > 0 && !short; n-- {
		x.Doc.Body = append(x.Doc.Body, sized())
	}
	if short || x.Uid == 0 || plainItem(x) != s {
		return api.Item{}, false
	}
	return x, true
}

// errnoOf tells what is answered to bytes that are, or are not, right.
func errnoOf(right bool) api.Errno {
	if right {
		return api.OK
	}
	return api.ErrCode
}

// 15.1, P1 to P4
func TestAnyBytesAreDecoded(t *testing.T) {
	ahead := runtime.NumGoroutine()
	r := rand.New(rand.NewSource(2))
	many := map[api.Errno]int{}
	for range 100000 {
		s := spoil(r, plainItem(randomItem(r, uint32(1+randomNumber(r)))))
		want, right := plainDecode(s)
		x, errno := seg.Decode(s)
		if !same(x, want) || errno != errnoOf(right) {
			t.Fatalf("Decode(%x) = %v, %d, not %v, %d", s, x, errno, want, errnoOf(right))
		}
		if back, errno := seg.Encode(x); right && (back != s || errno != api.OK) {
			t.Fatalf("%x is decoded as %v, that is encoded as %x, %d", s, x, back, errno)
		}
		many[errno]++
	}
	if many[api.OK] < 1000 || many[api.ErrCode] < 1000 {
		t.Errorf("the errors were %v", many)
	}
	if behind := runtime.NumGoroutine(); behind > ahead { // fewer, if that of an earlier test was just ending
		t.Errorf("%d goroutines ahead, %d behind", ahead, behind)
	}
}

// plainOpen reads records, and holds those of their items against s.
func plainOpen(s string) ([]api.Item, bool) {
	records, size := rec.All(s)
	if size != len(s) || len(records) < 2 {
		return nil, false
	}
	var l []api.Item
	for i, record := range records[2:] {
		x, right := plainDecode(record)
		if !right || i > 0 && x.Uid <= l[i-1].Uid {
			return nil, false
		}
		l = append(l, x)
	}
	return l, slices.Equal(plainRecords(l), records)
}

// plainLookup asks the first two records.
func plainLookup(s string, part uint64) ([]uint32, bool) {
	records, _ := rec.All(s)
	if len(records) < 2 || !strings.HasPrefix(records[0], "SEG") {
		return nil, false
	}
	count := uint64(0)
	for i := 3; i < len(records[0]); i++ {
		count |= uint64(records[0][i]%128) << (7 * (i - 3))
	}
	entries, behind, errno := dict.Read(records[1])
	if records[0] != first(count) || errno != api.OK || behind != "" {
		return nil, false
	}
	for _, e := range entries {
		if e.Key == part {
			uids, behind, errno := post.Unpack(e.Data)
			if errno != api.OK || behind != "" {
				return nil, false
			}
			return uids, true
		}
	}
	return nil, true
}

// 15.2, P1 to P4
func TestAnyBytesAreOpened(t *testing.T) {
	ahead := runtime.NumGoroutine()
	r := rand.New(rand.NewSource(3))
	opened, looked := map[api.Errno]int{}, map[api.Errno]int{}
	for range 30000 {
		l := randomItems(r, r.Intn(5))
		records := plainRecords(l)
		for range r.Intn(3) {
			at := r.Intn(len(records))
			records[at] = spoil(r, records[at])
		}
		s := join(t, records...)
		if r.Intn(4) == 0 {
			s = spoil(r, s)
		}
		want, right := plainOpen(s)
		back, errno := seg.Open(s)
		if right != (errno == api.OK) || errno != errnoOf(right) || right && !sameAll(back, want) || !right && len(back) > 0 {
			t.Fatalf("Open(%x) = %v, %d, not %v, %d", s, back, errno, want, errnoOf(right))
		}
		opened[errno]++
		gram := r.Uint64()
		for _, x := range l {
			for _, g := range mail.Grams(x.Doc) {
				gram = g
			}
		}
		uids, is := plainLookup(s, gram)
		if got, errno := seg.Lookup(s, gram); !slices.Equal(got, uids) || errno != errnoOf(is) {
			t.Fatalf("Lookup(%x, %x) = %d, %d, not %d, %d", s, gram, got, errno, uids, errnoOf(is))
		}
		looked[errnoOf(is)]++
	}
	for _, errno := range []api.Errno{api.OK, api.ErrCode} {
		if opened[errno] < 1000 || looked[errno] < 1000 {
			t.Errorf("the errors were %v, %v", opened, looked)
		}
	}
	if behind := runtime.NumGoroutine(); behind > ahead { // fewer, if that of an earlier test was just ending
		t.Errorf("%d goroutines ahead, %d behind", ahead, behind)
	}
}

// 15.1, 15.2, P1 to P3
func TestAnyItemsAreAnswered(t *testing.T) {
	r := rand.New(rand.NewSource(4))
	many := map[api.Errno]int{}
	for range 20000 {
		l := randomItems(r, r.Intn(5))
		form, order := false, false
		for i := range l {
			switch r.Intn(12) {
			case 0:
				l[i].Uid = 0
			case 1:
				l[i].Doc.Names = append(l[i].Doc.Names, "x")
			case 2:
				l[i].Doc.Values = append(l[i].Doc.Values, "x")
			case 3:
				l[i].Uid = uint32(r.Intn(4))
			}
			form = form || l[i].Uid == 0 || len(l[i].Doc.Names) != len(l[i].Doc.Values)
			order = order || i > 0 && l[i].Uid <= l[i-1].Uid
		}
		want := api.OK
		switch {
		case form:
			want = api.ErrForm
		case order:
			want = api.ErrOrder
		}
		if errno := seg.Check(l); errno != want {
			t.Fatalf("Check(%v) = %d, not %d", l, errno, want)
		}
		s, errno := seg.Build(l...)
		if errno != want || want != api.OK && s != "" {
			t.Fatalf("Build(%v) = %x, %d, not %d", l, s, errno, want)
		}
		if again, _ := seg.Build(l...); again != s {
			t.Fatalf("Build(%v) = %x, and then %x", l, s, again)
		}
		var uids []uint32
		for _, x := range l {
			uids = append(uids, x.Uid)
		}
		if all := seg.Seek(l); !slices.Equal(all, uids) {
			t.Fatalf("Seek(%v) of no parts = %d", l, all)
		}
		many[errno]++
	}
	for _, errno := range []api.Errno{api.OK, api.ErrForm, api.ErrOrder} {
		if many[errno] < 500 {
			t.Errorf("the errors were %v", many)
		}
	}
}
