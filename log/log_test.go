package log_test

import (
	"fmt"
	"math"
	"math/rand"
	"runtime"
	"slices"
	"strings"
	"testing"
	"unsafe"

	"missive/api"
	"missive/box"
	"missive/log"
	"missive/post"
	"missive/rec"
)

// The signatures that the chapter lists.
var (
	_ func(api.Change) (string, api.Errno)           = log.Encode
	_ func(string) (api.Change, api.Errno)           = log.Decode
	_ func(uint32) (string, api.Errno)               = log.Begin
	_ func(api.Change) (string, api.Errno)           = log.Frame
	_ func(string) (api.Box, uint64, int, api.Errno) = log.Replay
	_ func(string, uint64) ([]api.Change, api.Errno) = log.Tail
)

// longest is a mail of as many bytes as may be.
var longest = strings.Repeat("x", api.MaxMail)

// rising tells so many numbers from that one on, each so far from the next one.
func rising(from uint32, many int, apart uint32) []uint32 {
	l := make([]uint32, many)
	for i := range l {
		l[i] = from + uint32(i)*apart
	}
	return l
}

// right are changes that are right.
func right() map[string]api.Change {
	l := map[string]api.Change{
		"an append of nothing":      {Kind: api.ChangeAppend},
		"an append":                 {Kind: api.ChangeAppend, Flags: api.FlagSeen, Inner: api.Time{Day: 9531, Second: 4000, Zone: -90}, Raw: "A: b\n\nc"},
		"an append of all flags":    {Kind: api.ChangeAppend, Flags: api.FlagAll, Raw: "\x00"},
		"the least time":            {Kind: api.ChangeAppend, Inner: api.Time{Day: api.MinDay, Zone: -5999}, Raw: "\x80"},
		"the greatest time":         {Kind: api.ChangeAppend, Inner: api.Time{Day: api.MaxDay, Second: 86399, Zone: 5999}},
		"an append of most bytes":   {Kind: api.ChangeAppend, Raw: longest},
		"a mail like a packed list": {Kind: api.ChangeAppend, Raw: "\x01\x02\x01\x00"},
		"an expunge of none":        {Kind: api.ChangeExpunge},
		"an expunge":                {Kind: api.ChangeExpunge, Uids: []uint32{2, 4, 5, 11}},
		"an expunge of most":        {Kind: api.ChangeExpunge, Uids: rising(65535, api.MaxList, 65536)},
		"a select":                  {Kind: api.ChangeSelect},
	}
	for _, kind := range []api.ChangeKind{api.ChangeSet, api.ChangeAdd, api.ChangeRemove} {
		of := fmt.Sprintf("kind %d ", kind)
		l[of+"of nothing"] = api.Change{Kind: kind}
		l[of+"without flags"] = api.Change{Kind: kind, Uids: []uint32{0, 2, 300}}
		l[of+"of all flags"] = api.Change{Kind: kind, Uids: []uint32{3, math.MaxUint32}, Flags: api.FlagAll}
		l[of+"of two blocks"] = api.Change{Kind: kind, Uids: rising(7, 40, 9), Flags: api.FlagDraft}
		l[of+"of most numbers"] = api.Change{Kind: kind, Uids: rising(0, api.MaxList, 1), Flags: api.FlagSeen}
	}
	return l
}

// wrong are changes that are not right.
func wrong() map[string]api.Change {
	l := map[string]api.Change{
		"none":                    {},
		"a kind one too great":    {Kind: api.ChangeCount},
		"the greatest kind":       {Kind: 255},
		"an append with a number": {Kind: api.ChangeAppend, Uids: []uint32{1}},
		"an append of no flag":    {Kind: api.ChangeAppend, Flags: api.FlagAll + 1},
		"an append of 255 flags":  {Kind: api.ChangeAppend, Flags: 255},
		"an append of too much":   {Kind: api.ChangeAppend, Raw: longest + "x"},
		"a day too early":         {Kind: api.ChangeAppend, Inner: api.Time{Day: api.MinDay - 1}},
		"a day too late":          {Kind: api.ChangeAppend, Inner: api.Time{Day: api.MaxDay + 1}},
		"the least day":           {Kind: api.ChangeAppend, Inner: api.Time{Day: math.MinInt}},
		"the greatest day":        {Kind: api.ChangeAppend, Inner: api.Time{Day: math.MaxInt}},
		"a second too early":      {Kind: api.ChangeAppend, Inner: api.Time{Second: -1}},
		"a second too late":       {Kind: api.ChangeAppend, Inner: api.Time{Second: 86400}},
		"a zone too low":          {Kind: api.ChangeAppend, Inner: api.Time{Zone: -6000}},
		"a zone too high":         {Kind: api.ChangeAppend, Inner: api.Time{Zone: 6000}},
		"an expunge with flags":   {Kind: api.ChangeExpunge, Uids: []uint32{2}, Flags: api.FlagDeleted},
		"a select with flags":     {Kind: api.ChangeSelect, Flags: api.FlagSeen},
		"a select with a number":  {Kind: api.ChangeSelect, Uids: []uint32{0}},
	}
	for kind := api.ChangeSet; kind < api.ChangeCount; kind++ {
		of := fmt.Sprintf("kind %d ", kind)
		l[of+"of a time"] = api.Change{Kind: kind, Inner: api.Time{Second: 1}}
		l[of+"of a byte"] = api.Change{Kind: kind, Raw: "x"}
		l[of+"of a flag that is none"] = api.Change{Kind: kind, Flags: api.FlagAll + 1}
		l[of+"of what falls"] = api.Change{Kind: kind, Uids: []uint32{4, 2}}
		l[of+"of one twice"] = api.Change{Kind: kind, Uids: []uint32{2, 4, 4}}
		l[of+"of one too many"] = api.Change{Kind: kind, Uids: rising(0, api.MaxList+1, 1)}
	}
	return l
}

// same takes nil and empty lists as alike.
func same(a, b api.Change) bool {
	return a.Kind == b.Kind && a.Flags == b.Flags && a.Inner == b.Inner && a.Raw == b.Raw && slices.Equal(a.Uids, b.Uids)
}

// sameAll is same of lists.
func sameAll(a, b []api.Change) bool {
	return slices.EqualFunc(a, b, same)
}

// sameBox is same of boxes.
func sameBox(a, b api.Box) bool {
	return a.Validity == b.Validity && a.Next == b.Next && a.Mark == b.Mark && a.Last == b.Last && slices.Equal(a.Messages, b.Messages)
}

// number tells a number's bytes.
func number(n uint64) string {
	var b []byte
	for ; n > 127; n /= 128 {
		b = append(b, byte(n%128+128))
	}
	return string(append(b, byte(n)))
}

// longer tells a number's bytes with one more than it needs.
func longer(s string) string {
	return s[:len(s)-1] + string([]byte{s[len(s)-1] | 128, 0})
}

// even tells the bytes of a number that may be below 0.
func even(n int) string {
	if n < 0 {
		return number(uint64(-(n+1))*2 + 1)
	}
	return number(uint64(n) * 2)
}

// packed tells the bytes of a list, also of one that does not rise: then the gaps wrap, and are no gaps.
func packed(l []uint32) string {
	if s, errno := post.Pack(l); errno == api.OK {
		return s
	}
	s := number(uint64(len(l)))
	ahead := uint32(0)
	for block := range slices.Chunk(l, api.BlockSize) {
		rest := ""
		for i := 1; i < len(block); i++ {
			rest += number(uint64(block[i] - block[i-1] - 1))
		}
		s += number(uint64(block[0]-ahead)) + number(uint64(len(block))) + number(uint64(len(rest))) + rest
		ahead = block[len(block)-1]
	}
	return s
}

// pieces tells the bytes of a change, right or not, a piece for each part.
func pieces(c api.Change) []string {
	return []string{string([]byte{byte(c.Kind)}), string([]byte{byte(c.Flags)}), even(c.Inner.Day), even(c.Inner.Second), even(c.Inner.Zone), packed(c.Uids), c.Raw}
}

// bytesOf tells pieces as one.
func bytesOf(c api.Change) string {
	return strings.Join(pieces(c), "")
}

// framed tells a record.
func framed(t *testing.T, s string) string {
	t.Helper()
	f, errno := rec.Frame(s)
	if errno != api.OK {
		t.Fatalf("Frame: %d", errno)
	}
	return f
}

// begin tells a log without changes.
func begin(t *testing.T, validity uint32) string {
	t.Helper()
	s, errno := log.Begin(validity)
	if errno != api.OK {
		t.Fatalf("Begin(%d): %d", validity, errno)
	}
	return s
}

// frames tells the records of changes that are right.
func frames(t *testing.T, l ...api.Change) string {
	t.Helper()
	var b strings.Builder
	for _, c := range l {
		f, errno := log.Frame(c)
		if errno != api.OK {
			t.Fatalf("Frame(%v): %d", c, errno)
		}
		b.WriteString(f)
	}
	return b.String()
}

// notDecoded sees that these bytes are no change's.
func notDecoded(t *testing.T, what, s string) {
	t.Helper()
	if c, errno := log.Decode(s); !same(c, api.Change{}) || errno != api.ErrCode {
		t.Errorf("%s: Decode tells %v, %d, not ErrCode alone", what, c, errno)
	}
}

// 20.1
func TestBytesOfChanges(t *testing.T) {
	for what, c := range map[string]struct {
		c api.Change
		s string
	}{
		"the least append": {api.Change{Kind: api.ChangeAppend}, "\x01\x00\x00\x00\x00\x00"},
		"an append":        {api.Change{Kind: api.ChangeAppend, Flags: api.FlagSeen | api.FlagDraft, Inner: api.Time{Day: 9531, Second: 61, Zone: -90}, Raw: "hi"}, "\x01\x11\xf6\x94\x01\x7a\xb3\x01\x00hi"},
		"the day ahead":    {api.Change{Kind: api.ChangeAppend, Inner: api.Time{Day: -1}}, "\x01\x00\x01\x00\x00\x00"},
		"a set":            {api.Change{Kind: api.ChangeSet, Uids: []uint32{5, 6, 300}, Flags: api.FlagAll}, "\x02\x1f\x00\x00\x00\x03\x05\x03\x03\x00\xa5\x02"},
		"an add":           {api.Change{Kind: api.ChangeAdd, Uids: []uint32{1}, Flags: api.FlagDeleted}, "\x03\x08\x00\x00\x00\x01\x01\x01\x00"},
		"a remove":         {api.Change{Kind: api.ChangeRemove, Flags: api.FlagAnswered}, "\x04\x02\x00\x00\x00\x00"},
		"an expunge":       {api.Change{Kind: api.ChangeExpunge, Uids: []uint32{1, 2}}, "\x05\x00\x00\x00\x00\x02\x01\x02\x01\x00"},
		"a select":         {api.Change{Kind: api.ChangeSelect}, "\x06\x00\x00\x00\x00\x00"},
	} {
		if s, errno := log.Encode(c.c); s != c.s || errno != api.OK {
			t.Errorf("Encode of %s: %x, %d, not %x", what, s, errno, c.s)
		}
		if got, errno := log.Decode(c.s); !same(got, c.c) || errno != api.OK {
			t.Errorf("Decode of %s: %v, %d", what, got, errno)
		}
		if s, errno := log.Frame(c.c); s != framed(t, c.s) || errno != api.OK {
			t.Errorf("Frame of %s: %x, %d", what, s, errno)
		}
	}
}

// 20.1, 20.4, P2
func TestThereAndBack(t *testing.T) {
	for what, c := range right() {
		s, errno := log.Encode(c)
		if s != bytesOf(c) || errno != api.OK {
			t.Errorf("Encode of %s: %d bytes, %d", what, len(s), errno)
		}
		if got, errno := log.Decode(s); !same(got, c) || errno != api.OK {
			t.Errorf("%s is encoded, and decoded as something else: %d", what, errno)
		}
		if f, errno := log.Frame(c); f != framed(t, s) || errno != api.OK {
			t.Errorf("Frame of %s: %d bytes, %d", what, len(f), errno)
		}
	}
	for what, c := range wrong() {
		if s, errno := log.Encode(c); s != "" || errno != api.ErrForm {
			t.Errorf("Encode of %s: %d bytes, %d, not ErrForm alone", what, len(s), errno)
		}
		if s, errno := log.Frame(c); s != "" || errno != api.ErrForm {
			t.Errorf("Frame of %s: %d bytes, %d, not ErrForm alone", what, len(s), errno)
		}
		notDecoded(t, what, bytesOf(c))
	}
}

// 20.1: no right change has a record that would be too long, for the longest one is far from that.
func TestTheLongestRecord(t *testing.T) {
	for _, c := range []api.Change{
		{Kind: api.ChangeAppend, Flags: api.FlagAll, Inner: api.Time{Day: api.MaxDay, Second: 86399, Zone: -5999}, Raw: longest},
		{Kind: api.ChangeSet, Flags: api.FlagAll, Uids: rising(65535, api.MaxList, 65536)},
	} {
		if s, errno := log.Frame(c); errno != api.OK || len(s) > api.MaxData/4 {
			t.Errorf("kind %d: a record of %d bytes, %d", c.Kind, len(s), errno)
		}
	}
}

// 20.1
func TestBytesThatEndTooSoon(t *testing.T) {
	for what, c := range right() {
		s := bytesOf(c)
		ends := len(s) - len(c.Raw) // a mail may end anywhere
		for cut := range min(ends, 300) {
			notDecoded(t, fmt.Sprintf("%s, cut at %d", what, cut), s[:cut])
		}
		if ends > 300 {
			notDecoded(t, what+", cut at its end", s[:ends-1])
		}
		if c.Kind != api.ChangeAppend {
			notDecoded(t, what+", with a byte behind", s+"\x00")
			notDecoded(t, what+", with bytes behind", s+"mail")
			continue
		}
		if len(c.Raw) < 9 {
			more := c
			more.Raw += "mail"
			if got, errno := log.Decode(s + "mail"); !same(got, more) || errno != api.OK {
				t.Errorf("%s, with bytes behind: %v, %d", what, got, errno)
			}
		}
	}
}

// 20.1
func TestNumbersInMoreBytesThanTheyNeed(t *testing.T) {
	for what, c := range right() {
		if len(c.Uids) > 1000 || len(c.Raw) > 1000 {
			continue
		}
		for i := 2; i < 5; i++ {
			l := pieces(c)
			l[i] = longer(l[i])
			notDecoded(t, fmt.Sprintf("%s, part %d in more bytes", what, i), strings.Join(l, ""))
			l[i] = strings.Repeat("\x80", 9) + "\x02"
			notDecoded(t, fmt.Sprintf("%s, part %d of more than 64 bits", what, i), strings.Join(l, ""))
			l[i] = strings.Repeat("\x80", 30)
			notDecoded(t, fmt.Sprintf("%s, part %d without an end", what, i), strings.Join(l, ""))
		}
		l := pieces(c)
		l[5] = longer(l[5][:1]) + l[5][1:]
		notDecoded(t, what+", the count of Uids in more bytes", strings.Join(l, ""))
	}
	for what, s := range map[string]string{
		"the first number":            "\x05\x00\x00\x00\x00\x02\x81\x00\x02\x01\x00",
		"a block's count":             "\x05\x00\x00\x00\x00\x02\x01\x82\x00\x01\x00",
		"a block's size":              "\x05\x00\x00\x00\x00\x02\x01\x02\x81\x00\x00",
		"a gap":                       "\x05\x00\x00\x00\x00\x02\x01\x02\x02\x80\x00",
		"a block of too many numbers": "\x05\x00\x00\x00\x00\x02\x01\x03\x02\x00\x00",
		"a number above the greatest": "\x05\x00\x00\x00\x00\x01\x80\x80\x80\x80\x10\x01\x00",
		"the most numbers":            "\x05\x00\x00\x00\x00\xff\xff\xff\xff\xff\xff\xff\xff\xff\x01",
	} {
		notDecoded(t, what, s)
	}
}

// 20.1
func TestKindsAndFlagsThatThereAreNot(t *testing.T) {
	for kind := range 256 {
		for _, flags := range []int{0, 1, 31, 32, 64, 128, 255} {
			s := string([]byte{byte(kind), byte(flags), 0, 0, 0, 0})
			c := api.Change{Kind: api.ChangeKind(kind), Flags: api.Flag(flags)}
			if box.Right(c) != api.OK {
				notDecoded(t, fmt.Sprintf("kind %d, flags %d", kind, flags), s)
				continue
			}
			if got, errno := log.Decode(s); !same(got, c) || errno != api.OK {
				t.Errorf("kind %d, flags %d: %v, %d", kind, flags, got, errno)
			}
		}
	}
}

// 20.1, P2
func TestBegin(t *testing.T) {
	for validity, s := range map[uint32]string{1: "BOX\x01", 7: "BOX\x07", 127: "BOX\x7f", 128: "BOX\x80\x01", 300: "BOX\xac\x02", math.MaxUint32: "BOX\xff\xff\xff\xff\x0f"} {
		if got, errno := log.Begin(validity); got != framed(t, s) || errno != api.OK {
			t.Errorf("Begin(%d) = %x, %d", validity, got, errno)
		}
		b, n, size, errno := log.Replay(framed(t, s))
		if !sameBox(b, api.Box{Validity: validity, Next: 1}) || n != 1 || size != len(s)+5 || errno != api.OK {
			t.Errorf("Replay of Begin(%d): %v, %d, %d, %d", validity, b, n, size, errno)
		}
	}
	if s, errno := log.Begin(0); s != "" || errno != api.ErrRange {
		t.Errorf("Begin(0) = %x, %d, not ErrRange alone", s, errno)
	}
}

// some are changes that are done one behind the other.
func some() []api.Change {
	return []api.Change{
		{Kind: api.ChangeAppend, Inner: api.Time{Day: 9531, Second: 61, Zone: -90}, Raw: "one"},
		{Kind: api.ChangeSelect},
		{Kind: api.ChangeAppend, Flags: api.FlagSeen, Inner: api.Time{Day: -1}, Raw: "two"},
		{Kind: api.ChangeAdd, Uids: []uint32{1, 2}, Flags: api.FlagDeleted},
		{Kind: api.ChangeAppend, Raw: ""},
		{Kind: api.ChangeExpunge, Uids: []uint32{1, 3, 9}},
		{Kind: api.ChangeSelect},
		{Kind: api.ChangeRemove, Uids: []uint32{2}, Flags: api.FlagDeleted},
		{Kind: api.ChangeSet, Uids: []uint32{3}, Flags: api.FlagDraft},
		{Kind: api.ChangeAppend, Flags: api.FlagAll, Inner: api.Time{Second: 5}, Raw: "four"},
	}
}

// boxOf does changes as the chapter words it.
func boxOf(t *testing.T, validity uint32, l ...api.Change) api.Box {
	t.Helper()
	b, errno := box.Make(validity)
	for _, c := range l {
		if errno == api.OK {
			b, _, errno = box.Do(b, c)
		}
	}
	if errno != api.OK {
		t.Fatalf("Do: %d", errno)
	}
	return b
}

// comesTo sees that a log comes to the box of these changes, and that these are told.
func comesTo(t *testing.T, what, s string, size int, l ...api.Change) {
	t.Helper()
	b, n, got, errno := log.Replay(s)
	if want := boxOf(t, 7, l...); !sameBox(b, want) || n != uint64(len(l))+1 || got != size || errno != api.OK {
		t.Errorf("%s: Replay tells %d records, %d bytes, %d, and %v, not %d, %d, and %v", what, n, got, errno, b, len(l)+1, size, want)
	}
	for _, from := range []uint64{0, 1} {
		if all, errno := log.Tail(s, from); !sameAll(all, l) || errno != api.OK {
			t.Errorf("%s: Tail from %d tells %v, %d", what, from, all, errno)
		}
	}
}

// 20.2
func TestReplay(t *testing.T) {
	s := begin(t, 7)
	comesTo(t, "no changes", s, len(s))
	for i, c := range some() {
		s += frames(t, c)
		comesTo(t, fmt.Sprintf("%d changes", i+1), s, len(s), some()[:i+1]...)
	}
	b, _, _, _ := log.Replay(s)
	want := []api.Message{{Uid: 2, Flags: api.FlagSeen, Inner: api.Time{Day: -1}, Raw: "two"}, {Uid: 3, Flags: api.FlagDraft}, {Uid: 4, Flags: api.FlagAll, Inner: api.Time{Second: 5}, Raw: "four"}}
	if !sameBox(b, api.Box{Validity: 7, Next: 5, Mark: 1, Last: 3, Messages: want}) {
		t.Errorf("the box is %v", b)
	}
	one := api.Change{Kind: api.ChangeAppend, Raw: "x"}
	if b, n, _, errno := log.Replay(begin(t, 3) + frames(t, one, one)); len(b.Messages) != 2 || b.Validity != 3 || n != 3 || errno != api.OK {
		t.Errorf("two appends: %v, %d, %d", b, n, errno)
	}
}

// 20.2, P2
func TestWhatIsNoLog(t *testing.T) {
	good, change := begin(t, 9), frames(t, api.Change{Kind: api.ChangeAppend, Raw: "x"}) // the change does not begin with a 9: that would make a cut log whole
	logs := map[string]string{
		"nothing":                   "",
		"a byte":                    "\x00",
		"a change":                  change,
		"a change ahead":            change + good,
		"a byte ahead":              "\x00" + good,
		"bytes without a frame":     "BOX\x07",
		"an empty record":           framed(t, ""),
		"an empty record ahead":     framed(t, "") + good,
		"letters alone":             framed(t, "BOX"),
		"two letters":               framed(t, "BO"),
		"a Validity alone":          framed(t, "\x07"),
		"small letters":             framed(t, "box\x07"),
		"other letters":             framed(t, "BOY\x07"),
		"letters of a segment":      framed(t, "SEG\x07"),
		"a letter more":             framed(t, "BOXX\x07"),
		"a Validity of 0":           framed(t, "BOX\x00"),
		"a byte behind":             framed(t, "BOX\x07\x00"),
		"a letter behind":           framed(t, "BOX\x07X"),
		"a Validity in more bytes":  framed(t, "BOX\x87\x00"),
		"a Validity without an end": framed(t, "BOX\x87"),
		"a Validity of 2^32":        framed(t, "BOX\x80\x80\x80\x80\x10"),
		"a Validity of 2^32 and 7":  framed(t, "BOX\x87\x80\x80\x80\x10"),
		"a Validity of 64 bits":     framed(t, "BOX\xff\xff\xff\xff\xff\xff\xff\xff\xff\x01"),
		"another sum":               good[:2] + "\x00" + good[3:],
		"another number":            good[:len(good)-1] + "\x08",
		"the length in more bytes":  longer(good[:1]) + good[1:],
		"the greatest length":       "\xff\xff\xff\xff\xff\xff\xff\xff\xff\x01" + good,
		"a length of 2^63":          number(1<<63) + good,
		"a length of 2^64 less 99":  number(math.MaxUint64-98) + good,
		"a length above 64 bits":    "\xff\xff\xff\xff\xff\xff\xff\xff\xff\x02" + good,
		"a length above MaxData":    number(api.MaxData+1) + strings.Repeat("x", api.MaxData+9),
		"a record of MaxData":       framed(t, "BOX\x07"+strings.Repeat("x", api.MaxData-4)),
		"a log in a log":            framed(t, good),
		"a log's torn record":       good[:len(good)-1] + good,
	}
	for cut := range len(good) {
		logs[fmt.Sprintf("a log cut at %d", cut)] = good[:cut]
		logs[fmt.Sprintf("a log cut at %d, and a change", cut)] = good[:cut] + change
	}
	for what, s := range logs {
		for _, s := range []string{s, s + change} {
			if b, n, size, errno := log.Replay(s); !sameBox(b, api.Box{}) || n != 0 || size != 0 || errno != api.ErrCode {
				t.Errorf("%s: Replay tells %v, %d, %d, %d, not ErrCode alone", what, b, n, size, errno)
			}
			for _, from := range []uint64{0, 1, 2, math.MaxUint64} {
				if l, errno := log.Tail(s, from); len(l) != 0 || errno != api.ErrCode {
					t.Errorf("%s: Tail tells %v, %d, not ErrCode alone", what, l, errno)
				}
			}
		}
	}
}

// 20.2: what is behind a record that is no right change, or is not done, does not count
func TestALogEndsWhereARecordIsNotDone(t *testing.T) {
	good := framed(t, bytesOf(api.Change{Kind: api.ChangeAppend, Raw: "behind"}))
	bad := map[string]string{
		"nothing":                  "",
		"a first record":           begin(t, 7) + good,
		"another first record":     begin(t, 8) + good,
		"an empty record":          framed(t, "") + good,
		"a byte":                   framed(t, "\x01") + good,
		"what is torn":             good[:len(good)-1],
		"a byte that is no frame":  "\x05",
		"bytes between":            "\x80\x00" + good,
		"the greatest length":      number(math.MaxUint64) + good,
		"a length of 2^63":         number(1<<63) + good,
		"a length of 2^64 less 99": number(math.MaxUint64-98) + good,
		"another sum":              good[:1] + "\x00\x00\x00\x00" + good[5:] + good,
		"no such mail":             framed(t, bytesOf(api.Change{Kind: api.ChangeSet, Uids: []uint32{9}})) + good,
		"a mail that has gone":     framed(t, bytesOf(api.Change{Kind: api.ChangeAdd, Uids: []uint32{1, 2}})) + good,
		"one of mails not there":   framed(t, bytesOf(api.Change{Kind: api.ChangeRemove, Uids: []uint32{2, 5}})) + good,
		"bytes behind a change":    framed(t, bytesOf(api.Change{Kind: api.ChangeSelect})+"\x00") + good,
	}
	for what, c := range wrong() {
		bad[what] = framed(t, bytesOf(c)) + good
	}
	for many := range len(some()) + 1 {
		done := some()[:many]
		s := begin(t, 7) + frames(t, done...)
		for what, behind := range bad {
			if what == "a mail that has gone" && many < 6 {
				continue // both are there, or 2 is not yet
			}
			comesTo(t, fmt.Sprintf("%d changes, and %s", many, what), s+behind, len(s), done...)
		}
	}
}

// 20.2
func TestALogOfAFullBox(t *testing.T) {
	var l []api.Change
	for i := range api.MaxMails {
		l = append(l, api.Change{Kind: api.ChangeAppend, Flags: api.FlagDeleted, Inner: api.Time{Day: i, Second: 86399 - i, Zone: i}, Raw: fmt.Sprintf("%0*d", i%300, i)})
	}
	s := begin(t, 7) + frames(t, l...)
	b, n, size, errno := log.Replay(s + frames(t, l[0], api.Change{Kind: api.ChangeSelect}))
	if n != api.MaxMails+1 || size != len(s) || errno != api.OK || len(b.Messages) != api.MaxMails || b.Last != 0 {
		t.Fatalf("one append too many: %d records, %d bytes of %d, %d", n, size, len(s), errno)
	}
	for i, m := range b.Messages {
		if want := (api.Message{Uid: uint32(i + 1), Flags: api.FlagDeleted, Inner: l[i].Inner, Raw: l[i].Raw}); m != want {
			t.Fatalf("mail %d is %v", i, m)
		}
	}
	more := frames(t, api.Change{Kind: api.ChangeExpunge, Uids: rising(2, 3000, 1)}, l[1])
	b, n, size, errno = log.Replay(s + more)
	last := api.Message{Uid: api.MaxMails + 1, Flags: api.FlagDeleted, Inner: l[1].Inner, Raw: l[1].Raw}
	if n != api.MaxMails+3 || size != len(s)+len(more) || errno != api.OK || len(b.Messages) != api.MaxMails-2999 || b.Messages[len(b.Messages)-1] != last || b.Messages[0].Raw != l[0].Raw || b.Messages[1].Raw != l[3001].Raw {
		t.Errorf("expunged, and an append more: %d records, %d bytes, %d, %d mails", n, size, errno, len(b.Messages))
	}
}

// 20.2
func TestTail(t *testing.T) {
	all := some()
	s := begin(t, 7) + frames(t, all...)
	for _, behind := range []string{"", "\x05", framed(t, "\x00") + frames(t, all[0]), frames(t, api.Change{Kind: api.ChangeSet, Uids: []uint32{1}}, all[0])} {
		for from := range uint64(len(all)) + 4 {
			want := all[min(max(from, 1)-1, uint64(len(all))):]
			if l, errno := log.Tail(s+behind, from); !sameAll(l, want) || errno != api.OK {
				t.Errorf("Tail from %d: %v, %d, not %v", from, l, errno, want)
			}
		}
		for _, from := range []uint64{1 << 32, 1 << 63, math.MaxUint64} {
			if l, errno := log.Tail(s+behind, from); len(l) != 0 || errno != api.OK {
				t.Errorf("Tail from %d: %v, %d", from, l, errno)
			}
		}
	}
	for _, from := range []uint64{0, 1, 2, math.MaxUint64} {
		if l, errno := log.Tail(begin(t, 7), from); len(l) != 0 || errno != api.OK {
			t.Errorf("Tail from %d of no changes: %v, %d", from, l, errno)
		}
	}
}

// 20.5
func TestALogCutAtEveryByte(t *testing.T) {
	all := some()
	head := begin(t, 7)
	s := head + frames(t, all...)
	ends := []int{len(head)}
	for _, c := range all {
		ends = append(ends, ends[len(ends)-1]+len(frames(t, c)))
	}
	more := api.Change{Kind: api.ChangeAppend, Raw: "more"}
	for cut := len(head); cut <= len(s); cut++ {
		whole := 0
		for whole+1 < len(ends) && ends[whole+1] <= cut {
			whole++
		}
		comesTo(t, fmt.Sprintf("cut at %d", cut), s[:cut], ends[whole], all[:whole]...)
		_, _, size, _ := log.Replay(s[:cut])
		behind := s[:size] + frames(t, more)
		comesTo(t, fmt.Sprintf("cut at %d, and a record more", cut), behind, len(behind), append(slices.Clone(all[:whole]), more)...)
	}
}

// shares tells whether two texts have a byte of memory together.
func shares(a, b string) bool {
	if a == "" || b == "" {
		return false
	}
	x, y := uintptr(unsafe.Pointer(unsafe.StringData(a))), uintptr(unsafe.Pointer(unsafe.StringData(b)))
	return x < y+uintptr(len(b)) && y < x+uintptr(len(a))
}

// 20.3
func TestTextsAreNewMemory(t *testing.T) {
	s := begin(t, 7) + frames(t, some()...)
	c := api.Change{Kind: api.ChangeAppend, Raw: strings.Clone("a mail")}
	encoded, _ := log.Encode(c)
	texts := []string{s, c.Raw, encoded}
	for range 2 {
		again, _ := log.Encode(c)
		record, _ := log.Frame(c)
		back, _ := log.Decode(encoded)
		texts = append(texts, again, record, back.Raw, begin(t, 7))
		b, _, _, _ := log.Replay(s)
		for _, m := range b.Messages {
			texts = append(texts, m.Raw)
		}
		l, _ := log.Tail(s, 0)
		for _, c := range l {
			texts = append(texts, c.Raw)
		}
	}
	for i := range texts {
		for j := range i {
			if shares(texts[i], texts[j]) {
				t.Errorf("texts %d and %d, %q, share their memory", j, i, texts[i])
			}
		}
	}
}

// 20.3
func TestListsAreNewMemory(t *testing.T) {
	uids := append(make([]uint32, 0, 9), 1, 2)
	c := api.Change{Kind: api.ChangeExpunge, Uids: uids}
	s, _ := log.Encode(c)
	_, _ = log.Frame(c)
	if !slices.Equal(uids[:3], []uint32{1, 2, 0}) {
		t.Errorf("what is handed in is changed: %v", uids[:3])
	}
	uids[0] = 0
	first, _ := log.Decode(s)
	second, _ := log.Decode(s)
	first.Uids[0] = 99
	_ = append(first.Uids[:1], 99)
	if !slices.Equal(second.Uids, []uint32{1, 2}) {
		t.Errorf("an answer that was changed changes another one: %v", second.Uids)
	}
	text := begin(t, 7) + frames(t, some()...)
	b, _, _, _ := log.Replay(text)
	l, _ := log.Tail(text, 0)
	for i := range l {
		if len(l[i].Uids) > 0 {
			for j := range l[i].Uids {
				l[i].Uids[j] = 99
			}
			_ = append(l[i].Uids, 98)
		}
	}
	for i := range some() {
		if len(l[i].Uids) != len(some()[i].Uids) || slices.ContainsFunc(l[i].Uids, func(n uint32) bool { return n != 99 }) {
			t.Errorf("lists of one answer share memory: %v", l[i])
		}
	}
	clear(b.Messages)
	clear(l)
	comesTo(t, "behind answers that were changed", text, len(text), some()...)
}

// randomChange tells one that is right, mostly of mails that there are.
func randomChange(r *rand.Rand, b api.Box) api.Change {
	c := api.Change{Kind: api.ChangeKind(1 + r.Intn(int(api.ChangeCount)-1))}
	if c.Kind == api.ChangeAppend {
		c.Inner = api.Time{Day: r.Intn(api.MaxDay-api.MinDay+1) + api.MinDay, Second: r.Intn(86400), Zone: r.Intn(11999) - 5999}
		c.Raw = strings.Repeat("x", r.Intn(200)) + fmt.Sprint(r.Intn(9))
	} else if c.Kind != api.ChangeSelect {
		for _, m := range b.Messages {
			if r.Intn(3) == 0 {
				c.Uids = append(c.Uids, m.Uid)
			}
		}
		if r.Intn(8) == 0 {
			c.Uids = append(c.Uids, uint32(b.Next)+r.Uint32()>>(1+r.Intn(31)))
		}
	}
	if c.Kind < api.ChangeExpunge {
		c.Flags = api.Flag(r.Intn(int(api.FlagAll) + 1))
	}
	return c
}

// 20.1, 20.4, P1: bytes are decoded just where they are those that Encode tells
func TestAnyBytesAreAnswered(t *testing.T) {
	r := rand.New(rand.NewSource(1))
	decoded, not := 0, 0
	mails := api.Box{Next: 200}
	for i := range 40 {
		mails.Messages = append(mails.Messages, api.Message{Uid: uint32(i * 5)})
	}
	for range 60000 {
		l := pieces(randomChange(r, mails))
		switch at := r.Intn(len(l)); r.Intn(4) {
		case 0:
			l[at] = number(r.Uint64() >> r.Intn(64))
		case 1:
			l = slices.Delete(l, at, at+1)
		case 2:
			if b := []byte(l[at]); len(b) > 0 {
				b[r.Intn(len(b))] ^= 1 << r.Intn(8)
				l[at] = string(b)
			}
		}
		s := strings.Join(l, "")
		c, errno := log.Decode(s)
		if errno != api.OK {
			if errno != api.ErrCode || !same(c, api.Change{}) {
				t.Fatalf("Decode(%x) = %v, %d", s, c, errno)
			}
			not++
			continue
		}
		decoded++
		if again, errno := log.Encode(c); again != s || errno != api.OK {
			t.Fatalf("%x is decoded as %v, and that encoded as %x, %d", s, c, again, errno)
		}
	}
	if decoded < 10000 || not < 10000 {
		t.Errorf("%d were decoded, %d not", decoded, not)
	}
}

// plainReplay goes through a log just as the chapter words it.
func plainReplay(s string) (api.Box, []api.Change, int) {
	records, _ := rec.All(s)
	var b api.Box
	var l []api.Change
	size := 0
	for i, record := range records {
		if i == 0 {
			if !strings.HasPrefix(record, "BOX") || len(record) != 4 {
				break
			}
			b, _ = box.Make(uint32(record[3]))
		} else {
			c, errno := log.Decode(record)
			if errno != api.OK {
				break
			}
			next, _, errno := box.Do(b, c)
			if errno != api.OK {
				break
			}
			b, l = next, append(l, c)
		}
		f, _ := rec.Frame(record)
		size += len(f)
	}
	return b, l, size
}

// 20.2, 20.4, 20.5, P1 to P4: logs of any changes, cut and turned anywhere
func TestAnyLogIsAnswered(t *testing.T) {
	ahead := runtime.NumGoroutine()
	r := rand.New(rand.NewSource(2))
	ended, all := 0, 0
	for range 2000 {
		s := begin(t, 7)
		head := len(s)
		for range r.Intn(30) {
			b, _, _, _ := log.Replay(s)
			s += frames(t, randomChange(r, b))
		}
		switch at := head + r.Intn(len(s)-head+1); r.Intn(6) {
		case 0:
			s = s[:at]
		case 1:
			if b := []byte(s); at < len(b) {
				b[at] ^= 1 << r.Intn(8)
				s = string(b)
			}
		case 2:
			s = s[:at] + string([]byte{byte(r.Intn(256))}) + s[at:]
		}
		want, changes, wantSize := plainReplay(s)
		b, n, size, errno := log.Replay(s)
		if !sameBox(b, want) || n != uint64(len(changes))+1 || size != wantSize || errno != api.OK {
			t.Fatalf("Replay(%x) = %v, %d, %d, %d, not %v, %d, %d", s, b, n, size, errno, want, len(changes)+1, wantSize)
		}
		from := uint64(r.Intn(35))
		if l, errno := log.Tail(s, from); !sameAll(l, changes[min(max(from, 1)-1, uint64(len(changes))):]) || errno != api.OK {
			t.Fatalf("Tail(%x, %d) = %v, %d", s, from, l, errno)
		}
		if size < len(s) {
			ended++
		} else {
			all++
		}
	}
	if ended < 300 || all < 300 {
		t.Errorf("%d logs were whole, %d not", all, ended)
	}
	if behind := runtime.NumGoroutine(); behind > ahead { // fewer, if that of an earlier test was just ending
		t.Errorf("%d goroutines ahead, %d behind", ahead, behind)
	}
}
