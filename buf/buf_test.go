package buf_test

import (
	"math"
	"math/rand"
	"runtime"
	"slices"
	"strings"
	"testing"
	"unsafe"

	"missive/api"
	"missive/buf"
	"missive/mail"
	"missive/seg"
)

// The signatures that the chapter lists.
var (
	_ func(api.Buffer) api.Errno                          = buf.Check
	_ func(api.Buffer, api.Item) (api.Buffer, api.Errno)  = buf.Add
	_ func(api.Buffer, ...uint32) (api.Buffer, api.Errno) = buf.Remove
	_ func(api.Buffer, uint32) (api.Item, api.Errno)      = buf.Find
	_ func(string) []uint64                               = buf.Parts
	_ func(api.Buffer, string) ([]uint32, api.Errno)      = buf.Seek
	_ func(api.Buffer) (string, api.Errno)                = buf.Flush
)

// list is for short writing.
func list(l ...string) []string {
	return l
}

// body makes an item of a number and texts of its body.
func body(uid uint32, texts ...string) api.Item {
	return api.Item{Uid: uid, Doc: api.Doc{Body: texts}}
}

// buffer makes one of items.
func buffer(l ...api.Item) api.Buffer {
	return api.Buffer{Items: l}
}

// many makes so many items, whose numbers rise from that one on.
func many(from uint32, count int) []api.Item {
	var l []api.Item
	for i := range count {
		l = append(l, body(from+uint32(i), "abc"))
	}
	return l
}

// full is an item that has something of everything.
func full(uid uint32) api.Item {
	return api.Item{Uid: uid, Inner: -2, Doc: api.Doc{Size: 64, Day: 9531, Dated: true, Names: list("subject", "", "x"), Values: list("\u00e9t\u00e9", "no name", ""), Body: list("hello world", "", "\xff\x00", "ab")}}
}

// same takes nil and empty lists as alike.
func same(a, b api.Item) bool {
	c, d := a.Doc, b.Doc
	return a.Uid == b.Uid && a.Inner == b.Inner && c.Size == d.Size && c.Day == d.Day && c.Dated == d.Dated && slices.Equal(c.Names, d.Names) && slices.Equal(c.Values, d.Values) && slices.Equal(c.Body, d.Body)
}

// sameAll is same of each item.
func sameAll(a, b api.Buffer) bool {
	return slices.EqualFunc(a.Items, b.Items, same)
}

// uidsOf tells the numbers of a buffer's items.
func uidsOf(b api.Buffer) []uint32 {
	var l []uint32
	for _, x := range b.Items {
		l = append(l, x.Uid)
	}
	return l
}

// part is that of a text of three letters.
func part(text string) uint64 {
	l := []rune(text)
	return uint64(l[0])<<42 + uint64(l[1])<<21 + uint64(l[2])
}

// parts tells those of texts of three letters each.
func parts(texts ...string) []uint64 {
	var l []uint64
	for _, text := range texts {
		l = append(l, part(text))
	}
	slices.Sort(l)
	return l
}

// notRight are items that are not right.
var notRight = []api.Item{
	{},
	{Doc: api.Doc{Body: list("abc")}},
	{Uid: 9, Doc: api.Doc{Names: list("a")}},
	{Uid: 9, Doc: api.Doc{Values: list("a")}},
	{Uid: 9, Doc: api.Doc{Names: list("a", "b"), Values: list("c")}},
	{Uid: api.MaxUid, Doc: api.Doc{Names: list("a"), Values: list("b", "c")}},
}

// wrong tells buffers that are not right.
func wrong() []api.Buffer {
	l := []api.Buffer{
		buffer(body(3), body(3)),
		buffer(body(3), body(2)),
		buffer(body(1), body(2), body(3), body(1)),
		buffer(body(api.MaxUid), body(1)),
		buffer(many(1, api.MaxBuffer+1)...),
		buffer(many(1, api.MaxItems)...),
		buffer(many(1, api.MaxItems+1)...),
		buffer(append(many(1, api.MaxBuffer), body(1))...),
	}
	for _, x := range notRight {
		l = append(l, buffer(x), buffer(body(1), x), buffer(x, body(20)))
	}
	return l
}

// 16.1, 16.2, P2
func TestBuffersThatAreNotRight(t *testing.T) {
	for i, b := range wrong() {
		if errno := buf.Check(b); errno != api.ErrForm {
			t.Errorf("Check of wrong buffer %d: %d", i, errno)
		}
		for _, x := range []api.Item{body(api.MaxUid), body(1), {}} {
			if c, errno := buf.Add(b, x); len(c.Items) != 0 || errno != api.ErrForm {
				t.Errorf("Add to wrong buffer %d: %d items, %d, not ErrForm alone", i, len(c.Items), errno)
			}
		}
		for _, uids := range [][]uint32{nil, {1}, uidsOf(b)} {
			if c, errno := buf.Remove(b, uids...); len(c.Items) != 0 || errno != api.ErrForm {
				t.Errorf("Remove from wrong buffer %d: %d items, %d, not ErrForm alone", i, len(c.Items), errno)
			}
		}
		for _, uid := range append(uidsOf(b)[:1], 0, 77777) {
			if x, errno := buf.Find(b, uid); !same(x, api.Item{}) || errno != api.ErrForm {
				t.Errorf("Find in wrong buffer %d: %v, %d, not ErrForm alone", i, x, errno)
			}
		}
		for _, what := range list("", "abc") {
			if uids, errno := buf.Seek(b, what); len(uids) != 0 || errno != api.ErrForm {
				t.Errorf("Seek in wrong buffer %d: %d, %d, not ErrForm alone", i, uids, errno)
			}
		}
		if s, errno := buf.Flush(b); s != "" || errno != api.ErrForm {
			t.Errorf("Flush of wrong buffer %d: %d bytes, %d, not ErrForm alone", i, len(s), errno)
		}
	}
}

// 16.1
func TestBuffersThatAreRight(t *testing.T) {
	for i, b := range []api.Buffer{{}, buffer(), buffer(body(1)), buffer(body(api.MaxUid)), buffer(body(1), full(2), body(api.MaxUid)), buffer(many(1, api.MaxBuffer)...), buffer(many(api.MaxUid-api.MaxBuffer+1, api.MaxBuffer)...)} {
		if errno := buf.Check(b); errno != api.OK {
			t.Errorf("Check of right buffer %d: %d", i, errno)
		}
	}
}

// 16.1, P2, P3
func TestAdd(t *testing.T) {
	some := buffer(body(3, "abc"), full(5))
	most := buffer(many(1, api.MaxBuffer)...)
	last := most.Items[api.MaxBuffer-1].Uid
	for name, c := range map[string]struct {
		b     api.Buffer
		x     api.Item
		errno api.Errno
	}{
		"the first one":                     {buffer(), full(3), api.OK},
		"the least one first":               {api.Buffer{}, body(1), api.OK},
		"the greatest one first":            {api.Buffer{}, body(api.MaxUid, "abc"), api.OK},
		"one more":                          {some, full(6), api.OK},
		"one much above":                    {some, body(api.MaxUid), api.OK},
		"the last one's":                    {some, full(5), api.ErrOrder},
		"one between":                       {some, body(4), api.ErrOrder},
		"the first one's":                   {some, body(3), api.ErrOrder},
		"one below":                         {some, body(1), api.ErrOrder},
		"behind the greatest":               {buffer(body(api.MaxUid)), body(1), api.ErrOrder},
		"the greatest twice":                {buffer(body(api.MaxUid)), body(api.MaxUid), api.ErrOrder},
		"the last place":                    {buffer(most.Items[:api.MaxBuffer-1]...), body(last), api.OK},
		"no place":                          {most, body(last + 1), api.ErrFull},
		"no place, the greatest":            {most, body(api.MaxUid), api.ErrFull},
		"no place, and out of order":        {most, body(last), api.ErrOrder},
		"no place, and not right":           {most, api.Item{}, api.ErrForm},
		"no place, names without values":    {most, api.Item{Uid: last + 1, Doc: api.Doc{Names: list("a")}}, api.ErrForm},
		"out of order, and not right":       {some, api.Item{Uid: 2, Doc: api.Doc{Values: list("a")}}, api.ErrForm},
		"the last one's, and it has no Uid": {some, api.Item{}, api.ErrForm},
	} {
		want := c.b
		if c.errno == api.OK {
			want = buffer(slices.Concat(c.b.Items, []api.Item{c.x})...)
		}
		if b, errno := buf.Add(c.b, c.x); !sameAll(b, want) || errno != c.errno {
			t.Errorf("%s: %d, %d, not %d, %d", name, uidsOf(b), errno, uidsOf(want), c.errno)
		}
	}
	for _, x := range notRight {
		for _, b := range []api.Buffer{{}, some, most} {
			if c, errno := buf.Add(b, x); !sameAll(c, b) || errno != api.ErrForm {
				t.Errorf("Add of %v: %d, %d, not as it was, and ErrForm", x, uidsOf(c), errno)
			}
		}
	}
}

// 16.1
func TestABufferIsFilled(t *testing.T) {
	var b api.Buffer
	var errno api.Errno
	for i := range api.MaxBuffer {
		if b, errno = buf.Add(b, full(uint32(2*i+2))); errno != api.OK || len(b.Items) != i+1 {
			t.Fatalf("item %d: %d, and there are %d", i, errno, len(b.Items))
		}
	}
	if c, errno := buf.Add(b, full(2*api.MaxBuffer+2)); errno != api.ErrFull || !sameAll(c, b) {
		t.Errorf("one more: %d, and there are %d", errno, len(c.Items))
	}
	b, _ = buf.Remove(b, 2)
	if b, errno = buf.Add(b, full(2*api.MaxBuffer+2)); errno != api.OK || len(b.Items) != api.MaxBuffer {
		t.Errorf("when one is removed: %d, and there are %d", errno, len(b.Items))
	}
}

// 16.1
func TestRemove(t *testing.T) {
	b := buffer(body(3, "abc"), full(5), body(9), body(api.MaxUid, "abd"))
	for _, c := range []struct {
		uids, left []uint32
	}{
		{nil, []uint32{3, 5, 9, api.MaxUid}},
		{[]uint32{}, []uint32{3, 5, 9, api.MaxUid}},
		{[]uint32{3}, []uint32{5, 9, api.MaxUid}},
		{[]uint32{5}, []uint32{3, 9, api.MaxUid}},
		{[]uint32{api.MaxUid}, []uint32{3, 5, 9}},
		{[]uint32{5, 5, 5}, []uint32{3, 9, api.MaxUid}},
		{[]uint32{9, 3}, []uint32{5, api.MaxUid}},
		{[]uint32{9, 3, 9, 5, 3}, []uint32{api.MaxUid}},
		{[]uint32{0}, []uint32{3, 5, 9, api.MaxUid}},
		{[]uint32{4, 0, 2, 10, api.MaxUid - 1}, []uint32{3, 5, 9, api.MaxUid}},
		{[]uint32{10, 5, 4}, []uint32{3, 9, api.MaxUid}},
		{[]uint32{3, 5, 9, api.MaxUid}, nil},
		{[]uint32{api.MaxUid, 9, 8, 5, 3, 0}, nil},
	} {
		given := slices.Clone(c.uids)
		left, errno := buf.Remove(b, c.uids...)
		if !slices.Equal(uidsOf(left), c.left) || errno != api.OK {
			t.Errorf("without %d: %d, %d, not %d", c.uids, uidsOf(left), errno, c.left)
		}
		for _, x := range left.Items {
			if !slices.ContainsFunc(b.Items, func(y api.Item) bool { return same(x, y) }) {
				t.Errorf("without %d there is %v", c.uids, x)
			}
		}
		if !slices.Equal(given, c.uids) {
			t.Errorf("numbers that are handed in are changed to %d", c.uids)
		}
		if left, errno := buf.Remove(api.Buffer{}, c.uids...); len(left.Items) != 0 || errno != api.OK {
			t.Errorf("nothing without %d: %d, %d", c.uids, uidsOf(left), errno)
		}
	}
	var all []uint32
	for i := range uint32(200000) {
		all = append(all, 200000-i)
	}
	if left, errno := buf.Remove(buffer(many(199990, 20)...), all...); !slices.Equal(uidsOf(left), []uint32{200001, 200002, 200003, 200004, 200005, 200006, 200007, 200008, 200009}) || errno != api.OK {
		t.Errorf("without many: %d, %d", uidsOf(left), errno)
	}
}

// 16.2, P2
func TestFind(t *testing.T) {
	b := buffer(body(3, "abc"), full(5), body(9), api.Item{Uid: api.MaxUid, Inner: 4})
	for _, x := range b.Items {
		if y, errno := buf.Find(b, x.Uid); !same(x, y) || errno != api.OK {
			t.Errorf("%d is found as %v, %d", x.Uid, y, errno)
		}
	}
	for _, uid := range []uint32{0, 1, 2, 4, 6, 8, 10, api.MaxUid - 1} {
		if x, errno := buf.Find(b, uid); !same(x, api.Item{}) || errno != api.ErrNone {
			t.Errorf("%d is found as %v, %d, not ErrNone alone", uid, x, errno)
		}
	}
	for _, uid := range []uint32{0, 1, api.MaxUid} {
		if x, errno := buf.Find(api.Buffer{}, uid); !same(x, api.Item{}) || errno != api.ErrNone {
			t.Errorf("in nothing %d is found as %v, %d", uid, x, errno)
		}
	}
}

// 16.2
func TestParts(t *testing.T) {
	for _, c := range []struct {
		what  string
		parts []uint64
	}{
		{"", nil},
		{"a", nil},
		{"ab", nil},
		{"\u00e9", nil},
		{"\u00e9\u00e9", nil}, // four bytes, two letters
		{"\U0001f600\U0001f600", nil},
		{"\xff\xff", nil},
		{"abc", parts("abc")},
		{"abcd", parts("abc", "bcd")},
		{"dcba", parts("cba", "dcb")},
		{"abcab", parts("abc", "bca", "cab")},
		{"abcabc", parts("abc", "bca", "cab")},
		{"aaaaa", parts("aaa")},
		{"ABC", parts("ABC")}, // it is not folded here
		{"\u00c9t\u00e9", parts("\u00c9t\u00e9")},
		{"\u00e9t\u00e9s", parts("\u00e9t\u00e9", "t\u00e9s")},
		{"\u20ac\U0001f600\u00e9", parts("\u20ac\U0001f600\u00e9")},
		{"\x00\x00\x00", []uint64{0}},
		{"a: b", parts("a: ", ": b")},
		// bytes that are no UTF-8
		{"\xff\xfe\xfd", parts("\ufffd\ufffd\ufffd")},
		{"a\xffb", parts("a\ufffdb")},
		{"\xa9bc\xc3", parts("\ufffdbc", "bc\ufffd")},
		{"\xe2\x82", nil},
		{"\xf0\x9f\x98", parts("\ufffd\ufffd\ufffd")},
		{"\xed\xa0\x80", parts("\ufffd\ufffd\ufffd")},
	} {
		if got := buf.Parts(c.what); !slices.Equal(got, c.parts) {
			t.Errorf("Parts(%q) = %x, not %x", c.what, got, c.parts)
		}
	}
	long := buf.Parts(strings.Repeat("abcdefg", 50000))
	if len(long) != 7 || !slices.IsSorted(long) {
		t.Errorf("of many letters there are %d parts", len(long))
	}
}

// 16.2
func TestSeek(t *testing.T) {
	b := buffer(
		api.Item{Uid: 3, Doc: mail.Read("A: b\n\nhello")},
		api.Item{Uid: 5, Doc: mail.Read("\nyellow")},
		body(7, "hel", "ell", "llo"), // all parts, though not side by side
		body(9, "hel"),
		body(11),
		body(12, "\u00e9t\u00e9 ab\xffcd"),
	)
	all := uidsOf(b)
	for _, c := range []struct {
		what string
		uids []uint32
	}{
		{"", all}, {"h", all}, {"he", all}, {"zz", all}, {"\u00e9\u00e9", all}, {"\xff\xff", all},
		{"hel", []uint32{3, 7, 9}},
		{"ell", []uint32{3, 5, 7}},
		{"ello", []uint32{3, 5, 7}},
		{"hello", []uint32{3, 7}},
		{"llow", []uint32{5}},
		{"hellow", nil},
		{"HELLO", nil},
		{"a: b", []uint32{3}},
		{"\u00e9t\u00e9", []uint32{12}},
		{"b\xffc", []uint32{12}},
		{"b\ufffdc", []uint32{12}},
		{"xyz", nil},
	} {
		if uids, errno := buf.Seek(b, c.what); !slices.Equal(uids, c.uids) || errno != api.OK {
			t.Errorf("Seek of %q tells %d, %d, not %d", c.what, uids, errno, c.uids)
		}
		if uids, errno := buf.Seek(api.Buffer{}, c.what); len(uids) != 0 || errno != api.OK {
			t.Errorf("in nothing Seek of %q tells %d, %d", c.what, uids, errno)
		}
	}
}

// 16.2, P2
func TestFlush(t *testing.T) {
	for _, b := range []api.Buffer{{}, buffer()} {
		if s, errno := buf.Flush(b); s != "" || errno != api.ErrNone {
			t.Errorf("Flush of nothing: %x, %d, not ErrNone alone", s, errno)
		}
	}
	for i, b := range []api.Buffer{buffer(body(1)), buffer(body(3, "abc"), full(5)), buffer(many(1, api.MaxBuffer)...)} {
		s, errno := buf.Flush(b)
		if want, _ := seg.Build(b.Items...); s != want || errno != api.OK {
			t.Errorf("Flush of buffer %d: %d bytes, %d", i, len(s), errno)
		}
		if l, errno := seg.Open(s); !sameAll(buffer(l...), b) || errno != api.OK {
			t.Errorf("buffer %d is flushed, and opened as %d, %d", i, uidsOf(buffer(l...)), errno)
		}
	}
	if s, errno := buf.Flush(buffer(body(1, strings.Repeat("x", api.MaxData)))); s != "" || errno != api.ErrLong {
		t.Errorf("Flush of an item that is too long: %d bytes, %d, not ErrLong alone", len(s), errno)
	}
}

// shares tells whether two texts have a byte of memory together.
func shares(a, b string) bool {
	if a == "" || b == "" {
		return false
	}
	x, y := uintptr(unsafe.Pointer(unsafe.StringData(a))), uintptr(unsafe.Pointer(unsafe.StringData(b)))
	return x < y+uintptr(len(b)) && y < x+uintptr(len(a))
}

// texts tells those of items.
func texts(l ...api.Item) []string {
	var all []string
	for _, x := range l {
		all = slices.Concat(all, x.Doc.Names, x.Doc.Values, x.Doc.Body)
	}
	return all
}

// long is an item whose texts have memory of their own.
func long(uid uint32) api.Item {
	text := func(c string) string { return strings.Repeat(c, 40) }
	return api.Item{Uid: uid, Doc: api.Doc{Names: list(text("n"), text("m")), Values: list(text("v"), text("w")), Body: list(text("a"), text("b"))}}
}

// answers tells what the calls answer of a buffer: items that are all to be in memory of their own.
func answers(b api.Buffer, x api.Item) [][]api.Item {
	added, _ := buf.Add(b, x)
	twice, _ := buf.Add(b, b.Items[0])
	none, _ := buf.Add(b, api.Item{})
	same, _ := buf.Remove(b)
	fewer, _ := buf.Remove(b, b.Items[0].Uid)
	one, _ := buf.Find(b, b.Items[1].Uid)
	return [][]api.Item{added.Items, twice.Items, none.Items, same.Items, fewer.Items, {one}}
}

// 16.3
func TestAnswersAreNewMemory(t *testing.T) {
	b, x := buffer(long(3), long(5)), long(7)
	memory := texts(slices.Concat(b.Items, []api.Item{x})...)
	for range 2 {
		for _, l := range answers(b, x) {
			memory = append(memory, texts(l...)...)
		}
		s, _ := buf.Flush(b)
		memory = append(memory, s)
	}
	for i := range memory {
		for j := range i {
			if shares(memory[i], memory[j]) {
				t.Fatalf("texts %d and %d share their memory", j, i)
			}
		}
	}
	for _, l := range answers(b, x) {
		for i := range l {
			d := &l[i].Doc
			d.Names[0], d.Values[0], d.Body[0] = "changed", "changed", "changed"
			_, _ = append(d.Names[:1], "changed"), append(d.Values[:1], "changed")
			l[i].Uid = 99
		}
		_ = append(l[:0], api.Item{Uid: 98})
	}
	if !sameAll(b, buffer(long(3), long(5))) || !same(x, long(7)) {
		t.Error("what is handed in is changed, or shares memory with an answer")
	}
	uids, _ := buf.Seek(b, "aaa")
	gram := buf.Parts("aaa")
	uids[0], gram[0] = 0, 0
	if again, _ := buf.Seek(b, "aaa"); !slices.Equal(again, []uint32{3, 5}) || !slices.Equal(buf.Parts("aaa"), parts("aaa")) {
		t.Errorf("an answer that was changed is told as %d", again)
	}
}

// 16.3: room behind a list that is handed in is not written to
func TestRoomBehindAListIsLeft(t *testing.T) {
	room := append(make([]api.Item, 0, 8), body(3), body(5), body(7))
	b := buffer(room[:2]...)
	if c, errno := buf.Add(b, body(9)); !slices.Equal(uidsOf(c), []uint32{3, 5, 9}) || errno != api.OK || room[2].Uid != 7 {
		t.Errorf("Add tells %d, %d, and behind the list is %d", uidsOf(c), errno, room[2].Uid)
	}
	if c, errno := buf.Remove(buffer(room...), 3); !slices.Equal(uidsOf(c), []uint32{5, 7}) || errno != api.OK || !slices.Equal(uidsOf(buffer(room...)), []uint32{3, 5, 7}) {
		t.Errorf("Remove tells %d, %d, and the list is %d", uidsOf(c), errno, uidsOf(buffer(room...)))
	}
	first, _ := buf.Add(buffer(room...), body(9))
	second, _ := buf.Add(first, body(11))
	third, _ := buf.Add(first, body(12))
	if !slices.Equal(uidsOf(second), []uint32{3, 5, 7, 9, 11}) || !slices.Equal(uidsOf(third), []uint32{3, 5, 7, 9, 12}) {
		t.Errorf("two that are added to one are %d and %d", uidsOf(second), uidsOf(third))
	}
}

// randomText tells a mail, or a text, of few letters.
func randomText(r *rand.Rand, most int) string {
	letters := list("a", "b", "c", "A", "B", " ", "\n", ":", "\u00e9", "\u00c9", "\u20ac")
	s := ""
	for range r.Intn(most + 1) {
		s += letters[r.Intn(len(letters))]
	}
	return s
}

// randomMails tells a buffer of mails.
func randomMails(r *rand.Rand) api.Buffer {
	var b api.Buffer
	uid := uint32(0)
	for range r.Intn(8) {
		uid += 1 + uint32(r.Intn(3))
		text := "Subject: " + strings.ReplaceAll(randomText(r, 8), "\n", "") + "\nContent-Type: text/plain; charset=utf-8\n\n" + randomText(r, 12)
		b.Items = append(b.Items, api.Item{Uid: uid, Inner: r.Intn(9), Doc: mail.Read(text)})
	}
	return b
}

// randomWhat tells a piece of a field's line or of a text of one of them, or something else.
func randomWhat(r *rand.Rand, b api.Buffer) string {
	l := []rune(randomText(r, 5))
	if len(b.Items) > 0 && r.Intn(2) == 0 {
		d := b.Items[r.Intn(len(b.Items))].Doc
		all := append(slices.Clone(d.Body), d.Names[0]+": "+d.Values[0])
		l = []rune(all[r.Intn(len(all))])
		l = l[r.Intn(len(l)):]
		l = l[:1+r.Intn(len(l))]
	}
	return mail.What(l...)
}

// 16.4
func TestWhoHasItIsAmongThem(t *testing.T) {
	r := rand.New(rand.NewSource(1))
	had := 0
	for range 4000 {
		b := randomMails(r)
		for range 6 {
			what := randomWhat(r, b)
			uids, errno := buf.Seek(b, what)
			if errno != api.OK || !slices.IsSorted(uids) {
				t.Fatalf("Seek(%v, %q) = %d, %d", b, what, uids, errno)
			}
			for _, x := range b.Items {
				has := mail.InText(x.Doc, what)
				if has && !slices.Contains(uids, x.Uid) {
					t.Fatalf("%v has %q, and is not among %d", x, what, uids)
				}
				if has && len(buf.Parts(what)) > 0 {
					had++
				}
			}
			if len([]rune(what)) < 3 && !slices.Equal(uids, uidsOf(b)) {
				t.Fatalf("%q asks for nothing, and Seek tells %d", what, uids)
			}
		}
	}
	if had < 1000 {
		t.Errorf("only %d had what was looked for", had)
	}
}

// 16.4: what is flushed is found likewise
func TestFlushedIsFoundLikewise(t *testing.T) {
	r := rand.New(rand.NewSource(2))
	for range 500 {
		b := randomMails(r)
		s, errno := buf.Flush(b)
		if len(b.Items) == 0 {
			continue
		}
		if errno != api.OK {
			t.Fatalf("Flush(%v): %d", b, errno)
		}
		for _, text := range texts(b.Items...) {
			l := []rune(text)
			if len(l) < 3 {
				continue
			}
			what := string(l[:3])
			uids, _ := buf.Seek(b, what)
			if found, errno := seg.Lookup(s, buf.Parts(what)[0]); !slices.Equal(found, uids) || errno != api.OK {
				t.Fatalf("%q is found in %d, %d, and flushed in %d", what, uids, errno, found)
			}
		}
	}
}

// wantAdd tells what Add is to answer, just as the chapter words it.
func wantAdd(b api.Buffer, x api.Item) (api.Buffer, api.Errno) {
	for i, y := range b.Items {
		if y.Uid == 0 || len(y.Doc.Names) != len(y.Doc.Values) || i > 0 && y.Uid <= b.Items[i-1].Uid || i == api.MaxBuffer {
			return api.Buffer{}, api.ErrForm
		}
	}
	switch {
	case x.Uid == 0 || len(x.Doc.Names) != len(x.Doc.Values):
		return b, api.ErrForm
	case slices.Max(append(uidsOf(b), 0)) >= x.Uid:
		return b, api.ErrOrder
	case len(b.Items) == api.MaxBuffer:
		return b, api.ErrFull
	}
	return buffer(slices.Concat(b.Items, []api.Item{x})...), api.OK
}

// randomItem may be out of order, or not right.
func randomItem(r *rand.Rand, uid uint32) api.Item {
	x := body(uid, randomText(r, 4))
	switch r.Intn(20) {
	case 0:
		x.Uid = 0
	case 1:
		x.Uid = r.Uint32() >> r.Intn(32)
	case 2:
		x.Doc.Names = list("a")
	case 3:
		x.Doc.Values = list("a")
	case 4, 5, 6:
		x.Doc.Names, x.Doc.Values = list("a"), list(randomText(r, 3))
	}
	return x
}

// 16.1, 16.2, P1 to P4
func TestAnyBuffersAreAnswered(t *testing.T) {
	ahead := runtime.NumGoroutine()
	r := rand.New(rand.NewSource(3))
	errnos := map[api.Errno]int{}
	for range 20000 {
		var b api.Buffer
		for i := range r.Intn(6) {
			b.Items = append(b.Items, randomItem(r, uint32(3*i+1)))
		}
		if r.Intn(50) == 0 {
			b.Items = many(1, api.MaxBuffer-1+r.Intn(3))
		}
		x := randomItem(r, []uint32{math.MaxUint32, uint32(r.Intn(30))}[r.Intn(2)])
		want, wantErrno := wantAdd(b, x)
		c, errno := buf.Add(b, x)
		if !sameAll(c, want) || errno != wantErrno {
			t.Fatalf("Add(%v, %v) = %v, %d, not %v, %d", b, x, c, errno, want, wantErrno)
		}
		errnos[errno]++
		right := buf.Check(b)
		left, errno := buf.Remove(b, x.Uid, 1, 7, 1)
		kept := slices.DeleteFunc(uidsOf(b), func(uid uint32) bool { return uid == x.Uid || uid == 1 || uid == 7 })
		if right != errno || right == api.OK && !slices.Equal(uidsOf(left), kept) {
			t.Fatalf("Remove(%v) = %v, %d", b, left, errno)
		}
		_, errno = buf.Find(b, x.Uid)
		if is := slices.Contains(uidsOf(b), x.Uid); right != api.OK && errno != right || right == api.OK && (errno == api.OK) != is {
			t.Fatalf("Find(%v, %d): %d", b, x.Uid, errno)
		}
		if _, errno := buf.Seek(b, randomText(r, 5)+"\xff"); errno != right {
			t.Fatalf("Seek(%v): %d", b, errno)
		}
		if s, errno := buf.Flush(b); (s != "") != (right == api.OK && len(b.Items) > 0) || right != api.OK && errno != right {
			t.Fatalf("Flush(%v): %d bytes, %d", b, len(s), errno)
		}
	}
	for _, errno := range []api.Errno{api.OK, api.ErrForm, api.ErrOrder, api.ErrFull} {
		if errnos[errno] < 20 {
			t.Errorf("the errors were %v", errnos)
		}
	}
	if behind := runtime.NumGoroutine(); behind > ahead { // fewer, if that of an earlier test was just ending
		t.Errorf("%d goroutines ahead, %d behind", ahead, behind)
	}
}
