package box_test

import (
	"fmt"
	"maps"
	"math"
	"math/rand"
	"runtime"
	"slices"
	"strings"
	"testing"
	"unsafe"

	"missive/api"
	"missive/box"
)

// The signatures that the chapter lists.
var (
	_ func(api.Box) api.Errno                                  = box.Check
	_ func(api.Change) api.Errno                               = box.Right
	_ func(uint32) (api.Box, api.Errno)                        = box.Make
	_ func(api.Box, api.Change) (api.Box, []uint32, api.Errno) = box.Do
	_ func(api.Box, uint32) (api.Message, api.Errno)           = box.Find
	_ func(api.Box) ([]uint32, api.Errno)                      = box.Uids
	_ func(api.Box, uint32) (int, api.Errno)                   = box.Place
	_ func(api.Box) ([]uint32, api.Errno)                      = box.Recent
)

// longest is a mail of as many bytes as may be.
var longest = strings.Repeat("x", api.MaxMail)

// same takes nil and empty lists as alike.
func same(a, b api.Box) bool {
	return a.Validity == b.Validity && a.Next == b.Next && a.Mark == b.Mark && a.Last == b.Last && slices.Equal(a.Messages, b.Messages)
}

// mails tells mails of these numbers, each with bytes and a time of its own.
func mails(uids ...uint32) []api.Message {
	var l []api.Message
	for i, uid := range uids {
		l = append(l, api.Message{Uid: uid, Flags: api.Flag(i) & api.FlagAll, Inner: api.Time{Day: i, Second: i, Zone: -i}, Raw: fmt.Sprintf("mail %d", uid)})
	}
	return l
}

// with tells a box of that Next with mails of these numbers.
func with(next uint64, uids ...uint32) api.Box {
	return api.Box{Validity: 9, Next: next, Messages: mails(uids...)}
}

// one tells a box with one mail, that is changed.
func one(change func(m *api.Message)) api.Box {
	b := with(9, 5)
	change(&b.Messages[0])
	return b
}

// timed tells a box whose middle mail of three, or whose last one, came at that time; all others came at time zero.
func timed(t api.Time, at int) api.Box {
	b := with(9, 1, 2, 3)
	for i := range b.Messages {
		b.Messages[i].Inner = api.Time{}
	}
	b.Messages[at].Inner = t
	return b
}

// rising tells so many numbers from that one on, each so far from the next one.
func rising(from uint32, many int, apart uint32) []uint32 {
	l := make([]uint32, many)
	for i := range l {
		l[i] = from + uint32(i)*apart
	}
	return l
}

// some tells a box that has something of everything.
func some() api.Box {
	return api.Box{Validity: 7, Next: 12, Mark: 3, Last: 9, Messages: []api.Message{
		{Uid: 2, Flags: api.FlagSeen | api.FlagDeleted, Inner: api.Time{Day: 9531, Second: 61, Zone: -90}, Raw: "A: b\n\nc"},
		{Uid: 3, Raw: ""},
		{Uid: 4, Flags: api.FlagAll, Inner: api.Time{Day: -1, Second: 86399, Zone: 60}, Raw: "x"},
		{Uid: 8, Flags: api.FlagDraft, Inner: api.Time{Day: 5}, Raw: "\x00\xff"},
		{Uid: 11, Flags: api.FlagDeleted, Inner: api.Time{Day: 5}, Raw: "last"},
	}}
}

// rightTimes are times at each end of what is right, and within.
func rightTimes() map[string]api.Time {
	return map[string]api.Time{
		"time zero": {}, "the first day": {Day: api.MinDay}, "the last day": {Day: api.MaxDay}, "the last second": {Second: 86399},
		"the least zone": {Zone: -5999}, "the greatest zone": {Zone: 5999}, "the least of all": {Day: api.MinDay, Zone: -5999}, "the greatest of all": {Day: api.MaxDay, Second: 86399, Zone: 5999},
	}
}

// wrongTimes are one past each end, and far from it.
func wrongTimes() map[string]api.Time {
	return map[string]api.Time{
		"a day too early": {Day: api.MinDay - 1}, "a day too late": {Day: api.MaxDay + 1}, "the least day": {Day: math.MinInt}, "the greatest day": {Day: math.MaxInt},
		"a second below 0": {Second: -1}, "a second too late": {Second: 86400}, "the greatest second": {Second: math.MaxInt}, "the least second": {Second: math.MinInt},
		"a zone too low": {Zone: -6000}, "a zone too high": {Zone: 6000}, "the least of ints": {Zone: math.MinInt}, "the greatest of ints": {Zone: math.MaxInt},
	}
}

// right are boxes that are right.
func right() map[string]api.Box {
	l := map[string]api.Box{
		"the least":                 {Validity: 1, Next: 1},
		"an empty list":             {Validity: 1, Next: 1, Messages: []api.Message{}},
		"something":                 some(),
		"the greatest Validity":     {Validity: math.MaxUint32, Next: 1},
		"Next of MaxUid":            with(api.MaxUid, 1),
		"Next of MaxUid + 1":        with(api.MaxUid+1, 1, api.MaxUid),
		"the number 1":              with(2, 1),
		"a number below Next":       with(100, 1, 99),
		"MaxMails mails":            with(api.MaxMails+1, rising(1, api.MaxMails, 1)...),
		"MaxMails mails far apart":  with(api.MaxUid+1, rising(1<<20-1, api.MaxMails, 1<<20)...),
		"no flags":                  one(func(m *api.Message) { m.Flags = 0 }),
		"all flags":                 one(func(m *api.Message) { m.Flags = api.FlagAll }),
		"no bytes":                  one(func(m *api.Message) { m.Raw = "" }),
		"MaxMail bytes":             one(func(m *api.Message) { m.Raw = longest }),
		"Mark at Last":              {Validity: 1, Next: 9, Mark: 5, Last: 5},
		"Mark below Last":           {Validity: 1, Next: 9, Mark: 4, Last: 5},
		"Last at Next less one":     {Validity: 1, Next: 9, Last: 8},
		"the greatest Mark, Last":   {Validity: 1, Next: api.MaxUid + 1, Mark: api.MaxUid, Last: api.MaxUid},
		"Last of no mail":           {Validity: 1, Next: 9, Last: 7, Messages: mails(3)},
		"all mails behind the last": {Validity: 1, Next: 9, Last: 2, Messages: mails(3, 8)},
	}
	for what, t := range rightTimes() {
		l[what] = timed(t, 1)
		l[what+", last"] = timed(t, 2)
	}
	return l
}

// wrong are boxes that are not right.
func wrong() map[string]api.Box {
	l := map[string]api.Box{
		"zero":                     {},
		"a Next of 0":              {Validity: 1},
		"Next of MaxUid + 2":       {Validity: 1, Next: api.MaxUid + 2},
		"the greatest Next":        {Validity: 1, Next: math.MaxUint64},
		"one mail too many":        with(api.MaxMails+2, rising(1, api.MaxMails+1, 1)...),
		"the number 0":             with(9, 0),
		"the number 0 behind":      with(9, 1, 0),
		"a number twice":           with(9, 1, 2, 2),
		"the greatest twice":       with(api.MaxUid+1, api.MaxUid, api.MaxUid),
		"the greatest, then 0":     with(api.MaxUid+1, api.MaxUid, 0),
		"a number below":           with(9, 3, 2),
		"a last number below":      with(9, 1, 3, 5, 4),
		"a number at Next":         with(9, 9),
		"a last number at Next":    with(9, 1, 9),
		"a number above Next":      with(9, 10),
		"a number, and Next 1":     with(1, 1),
		"a flag that is none":      one(func(m *api.Message) { m.Flags = api.FlagAll + 1 }),
		"a flag beside others":     one(func(m *api.Message) { m.Flags = api.FlagSeen | 64 }),
		"each bit of flags":        one(func(m *api.Message) { m.Flags = 255 }),
		"one byte too many":        one(func(m *api.Message) { m.Raw = longest + "x" }),
		"Mark above Last":          {Validity: 1, Next: 9, Mark: 6, Last: 5},
		"the greatest Mark":        {Validity: 1, Next: 9, Mark: math.MaxUint32, Last: 5},
		"Last at Next":             {Validity: 1, Next: 9, Last: 9},
		"Mark and Last at Next":    {Validity: 1, Next: 9, Mark: 9, Last: 9},
		"Last above Next":          {Validity: 1, Next: 9, Last: 10},
		"the greatest Last":        {Validity: 1, Next: api.MaxUid, Last: api.MaxUid},
		"Last of 1 in a new box":   {Validity: 1, Next: 1, Last: 1},
		"a wrong mail behind ones": {Validity: 1, Next: 9, Messages: append(mails(1, 2), api.Message{Uid: 3, Flags: 32})},
	}
	b := some()
	b.Validity = 0
	l["a Validity of 0"] = b
	b = some()
	b.Next = 0
	l["a Next of 0 with mails"] = b
	for what, t := range wrongTimes() {
		l[what] = timed(t, 0)
		l[what+", in the middle"] = timed(t, 1)
		l[what+", last"] = timed(t, 2)
		b := timed(t, 0)
		for i := range b.Messages {
			b.Messages[i].Inner = t
		}
		l[what+", of all"] = b
	}
	return l
}

// marks are the kinds that change flags.
func marks() []api.ChangeKind {
	return []api.ChangeKind{api.ChangeSet, api.ChangeAdd, api.ChangeRemove}
}

// rightChanges are changes that are right.
func rightChanges() map[string]api.Change {
	l := map[string]api.Change{
		"an append of nothing":    {Kind: api.ChangeAppend},
		"an append":               {Kind: api.ChangeAppend, Flags: api.FlagSeen, Inner: api.Time{Day: 3, Second: 4, Zone: 5}, Raw: "x"},
		"an append of no Uids":    {Kind: api.ChangeAppend, Uids: []uint32{}},
		"an append of all flags":  {Kind: api.ChangeAppend, Flags: api.FlagAll},
		"an append of most bytes": {Kind: api.ChangeAppend, Raw: longest},
		"an expunge of none":      {Kind: api.ChangeExpunge},
		"an expunge":              {Kind: api.ChangeExpunge, Uids: []uint32{2, 4, 5, 11}},
		"an expunge of most":      {Kind: api.ChangeExpunge, Uids: rising(0, api.MaxList, 1)},
		"a select":                {Kind: api.ChangeSelect},
		"a select of no Uids":     {Kind: api.ChangeSelect, Uids: []uint32{}},
	}
	for what, t := range rightTimes() {
		l["an append at "+what] = api.Change{Kind: api.ChangeAppend, Inner: t}
	}
	for _, kind := range marks() {
		of := fmt.Sprintf("kind %d ", kind)
		l[of+"of nothing"] = api.Change{Kind: kind}
		l[of+"of no mails"] = api.Change{Kind: kind, Uids: []uint32{}, Flags: api.FlagAll}
		l[of+"without flags"] = api.Change{Kind: kind, Uids: []uint32{2, 8}}
		l[of+"of all flags"] = api.Change{Kind: kind, Uids: []uint32{3, 4}, Flags: api.FlagAll}
		l[of+"of a number that is none"] = api.Change{Kind: kind, Uids: []uint32{0, 2}, Flags: api.FlagSeen}
		l[of+"of the greatest number"] = api.Change{Kind: kind, Uids: []uint32{8, math.MaxUint32}, Flags: api.FlagDraft}
		l[of+"of most numbers"] = api.Change{Kind: kind, Uids: rising(65535, api.MaxList, 65536), Flags: api.FlagDraft}
	}
	return l
}

// wrongChanges are changes that are not right: of each kind each part that has to be zero and is not, among others.
func wrongChanges() map[string]api.Change {
	l := map[string]api.Change{
		"none":                      {},
		"none with all":             {Uids: []uint32{2}, Flags: api.FlagSeen, Raw: "x"},
		"a kind one too great":      {Kind: api.ChangeCount},
		"a kind two too great":      {Kind: api.ChangeCount + 1},
		"the greatest kind":         {Kind: 255},
		"an append with a number":   {Kind: api.ChangeAppend, Uids: []uint32{1}},
		"an append with numbers":    {Kind: api.ChangeAppend, Uids: []uint32{2, 3}, Raw: "x"},
		"an append of no flag":      {Kind: api.ChangeAppend, Flags: api.FlagAll + 1},
		"an append of more flags":   {Kind: api.ChangeAppend, Flags: 255},
		"an append of too much":     {Kind: api.ChangeAppend, Raw: longest + "x"},
		"an expunge with flags":     {Kind: api.ChangeExpunge, Uids: []uint32{2}, Flags: api.FlagDeleted},
		"an expunge of no flag":     {Kind: api.ChangeExpunge, Uids: []uint32{2}, Flags: 32},
		"a select with flags":       {Kind: api.ChangeSelect, Flags: api.FlagSeen},
		"a select of no flag":       {Kind: api.ChangeSelect, Flags: 128},
		"a select with a number":    {Kind: api.ChangeSelect, Uids: []uint32{0}},
		"a select with some":        {Kind: api.ChangeSelect, Uids: []uint32{2, 3}},
		"a select with what falls":  {Kind: api.ChangeSelect, Uids: []uint32{3, 2}},
		"a select with most":        {Kind: api.ChangeSelect, Uids: rising(0, api.MaxList+1, 1)},
		"a select with all of them": {Kind: api.ChangeSelect, Uids: []uint32{2}, Flags: 1, Inner: api.Time{Day: 1}, Raw: "x"},
	}
	for what, t := range wrongTimes() {
		l["an append at "+what] = api.Change{Kind: api.ChangeAppend, Inner: t, Raw: "x"}
	}
	for _, kind := range append(marks(), api.ChangeExpunge) {
		of := fmt.Sprintf("kind %d ", kind)
		l[of+"of what falls"] = api.Change{Kind: kind, Uids: []uint32{4, 2}}
		l[of+"of one twice"] = api.Change{Kind: kind, Uids: []uint32{2, 4, 4}}
		l[of+"of one too many"] = api.Change{Kind: kind, Uids: rising(0, api.MaxList+1, 1)}
	}
	for _, kind := range append(marks(), api.ChangeExpunge, api.ChangeSelect) {
		of := fmt.Sprintf("kind %d ", kind)
		l[of+"of a day"] = api.Change{Kind: kind, Inner: api.Time{Day: 1}}
		l[of+"of a second"] = api.Change{Kind: kind, Inner: api.Time{Second: 1}}
		l[of+"of a zone"] = api.Change{Kind: kind, Inner: api.Time{Zone: -1}}
		l[of+"of a wrong time"] = api.Change{Kind: kind, Inner: api.Time{Second: 86400}}
		l[of+"of a byte"] = api.Change{Kind: kind, Raw: "\x00"}
		l[of+"of too much"] = api.Change{Kind: kind, Raw: longest + "x"}
		l[of+"of a flag that is none"] = api.Change{Kind: kind, Flags: api.FlagAll + 1}
		l[of+"of more than all flags"] = api.Change{Kind: kind, Flags: 255}
	}
	return l
}

// 19.1
func TestCheck(t *testing.T) {
	for what, b := range right() {
		if errno := box.Check(b); errno != api.OK {
			t.Errorf("Check of %s: %d", what, errno)
		}
	}
	for what, b := range wrong() {
		if errno := box.Check(b); errno != api.ErrForm {
			t.Errorf("Check of %s: %d", what, errno)
		}
	}
}

// 19.1
func TestRight(t *testing.T) {
	for what, c := range rightChanges() {
		if errno := box.Right(c); errno != api.OK {
			t.Errorf("Right of %s: %d", what, errno)
		}
	}
	for what, c := range wrongChanges() {
		if errno := box.Right(c); errno != api.ErrForm {
			t.Errorf("Right of %s: %d", what, errno)
		}
	}
	for kind := range 256 {
		want := api.OK
		if kind == 0 || kind >= int(api.ChangeCount) {
			want = api.ErrForm
		}
		if errno := box.Right(api.Change{Kind: api.ChangeKind(kind)}); errno != want {
			t.Errorf("Right of kind %d: %d", kind, errno)
		}
	}
}

// 19.1, P2
func TestMake(t *testing.T) {
	for _, validity := range []uint32{1, 2, 9, math.MaxInt32 + 1, math.MaxUint32} {
		b, errno := box.Make(validity)
		if !same(b, api.Box{Validity: validity, Next: 1}) || errno != api.OK || box.Check(b) != api.OK {
			t.Errorf("Make(%d) = %v, %d", validity, b, errno)
		}
	}
	if b, errno := box.Make(0); !same(b, api.Box{}) || errno != api.ErrRange {
		t.Errorf("Make(0) = %v, %d, not ErrRange alone", b, errno)
	}
}

// does sees that a change makes one box of another, and tells these numbers.
func does(t *testing.T, what string, b api.Box, c api.Change, want api.Box, uids ...uint32) {
	t.Helper()
	got, told, errno := box.Do(b, c)
	if !same(got, want) || !slices.Equal(told, uids) || errno != api.OK {
		t.Errorf("%s: Do tells %v, %d, and makes %v, not %v, and %v", what, told, errno, got, uids, want)
	}
	if errno := box.Check(got); errno != api.OK {
		t.Errorf("%s: the box is not right any more: %d", what, errno)
	}
}

// refuses sees that a box is as it was with an error.
func refuses(t *testing.T, what string, b api.Box, c api.Change, want api.Errno) {
	t.Helper()
	if got, told, errno := box.Do(b, c); !same(got, b) || len(told) != 0 || errno != want {
		t.Errorf("%s: Do tells %v, %d, and a box that is as it was: %t; not %d", what, told, errno, same(got, b), want)
	}
}

// 19.2, P2
func TestDoOfWhatIsNotRight(t *testing.T) {
	changes := rightChanges()
	maps.Copy(changes, wrongChanges())
	for what, b := range wrong() {
		for of, c := range changes {
			if got, told, errno := box.Do(b, c); !same(got, api.Box{}) || len(told) != 0 || errno != api.ErrForm {
				t.Errorf("Do of %s, %s: %v, %v, %d, not ErrForm alone", what, of, got, told, errno)
			}
		}
	}
	for what, b := range right() {
		if len(b.Messages) > 100 {
			continue // the many mails would be copied for each change
		}
		for of, c := range wrongChanges() {
			refuses(t, what+", "+of, b, c, api.ErrForm)
		}
	}
	refuses(t, "a full box", right()["MaxMails mails"], api.Change{Kind: api.ChangeAppend, Flags: 32}, api.ErrForm)
	refuses(t, "no such mail", some(), api.Change{Kind: api.ChangeSet, Uids: []uint32{5, 5}}, api.ErrForm)
}

// 19.2
func TestAppend(t *testing.T) {
	for what, c := range rightChanges() {
		if c.Kind != api.ChangeAppend {
			continue
		}
		for _, b := range []api.Box{some(), {Validity: 1, Next: 1}, with(9), with(api.MaxUid, 3), {Validity: 1, Next: 300, Mark: 9, Last: 299}} {
			want := b
			want.Messages = append(slices.Clone(b.Messages), api.Message{Uid: uint32(b.Next), Flags: c.Flags, Inner: c.Inner, Raw: c.Raw})
			want.Next++
			does(t, what, b, c, want, uint32(b.Next))
		}
	}
}

// 19.2
func TestAppendToABoxThatIsFull(t *testing.T) {
	c := api.Change{Kind: api.ChangeAppend, Raw: "x"}
	b, uids, errno := box.Do(with(api.MaxUid, 3), c)
	if !slices.Equal(uids, []uint32{api.MaxUid}) || b.Next != api.MaxUid+1 || len(b.Messages) != 2 || errno != api.OK {
		t.Errorf("an append at Next = MaxUid: %v, %v, %d", uids, b, errno)
	}
	refuses(t, "an append at Next = MaxUid + 1", b, c, api.ErrFull)
	refuses(t, "an append at Next = MaxUid + 1 without mails", with(api.MaxUid+1), c, api.ErrFull)
	full := with(api.MaxMails+9, rising(1, api.MaxMails, 1)...)
	refuses(t, "an append to MaxMails mails", full, c, api.ErrFull)
	refuses(t, "an append at both", with(api.MaxUid+1, rising(1, api.MaxMails, 1)...), c, api.ErrFull)
	fewer := full
	fewer.Messages = full.Messages[1:]
	want := fewer
	want.Messages = append(slices.Clone(fewer.Messages), api.Message{Uid: api.MaxMails + 9, Raw: "x"})
	want.Next++
	does(t, "an append to one mail fewer", fewer, c, want, api.MaxMails+9)
	does(t, "marking in a full box", full, api.Change{Kind: api.ChangeAdd, Uids: []uint32{1}}, full, 1)
}

// 19.2, 19.6
func TestFlags(t *testing.T) {
	for had := range api.FlagAll + 1 {
		for flags := range api.FlagAll + 1 {
			for kind, want := range map[api.ChangeKind]api.Flag{api.ChangeSet: flags, api.ChangeAdd: had | flags, api.ChangeRemove: had &^ flags} {
				b := some()
				b.Messages[1].Flags, b.Messages[3].Flags = had, had
				behind := b
				behind.Messages = slices.Clone(b.Messages)
				behind.Messages[1].Flags, behind.Messages[3].Flags = want, want
				does(t, fmt.Sprintf("kind %d of %d to %d", kind, flags, had), b, api.Change{Kind: kind, Uids: []uint32{3, 8}, Flags: flags}, behind, 3, 8)
			}
		}
	}
}

// 19.2
func TestFlagsOfWhichMails(t *testing.T) {
	for _, kind := range marks() {
		change := func(uids ...uint32) api.Change {
			return api.Change{Kind: kind, Uids: uids, Flags: api.FlagAnswered | api.FlagDeleted}
		}
		does(t, "no mail", some(), change(), some())
		does(t, "no mail of no mails", with(9), change(), with(9))
		all, want := []uint32{2, 3, 4, 8, 11}, some()
		for i, m := range want.Messages {
			switch kind {
			case api.ChangeSet:
				m.Flags = api.FlagAnswered | api.FlagDeleted
			case api.ChangeAdd:
				m.Flags |= api.FlagAnswered | api.FlagDeleted
			case api.ChangeRemove:
				m.Flags &= api.FlagSeen | api.FlagFlagged | api.FlagDraft
			}
			want.Messages[i] = m
			single := some()
			single.Messages[i] = m
			does(t, "one mail", some(), change(m.Uid), single, m.Uid)
		}
		does(t, "all mails", some(), change(all...), want, all...)
		for _, uids := range [][]uint32{{0}, {1}, {5}, {7}, {9}, {12}, {math.MaxUint32}, {0, 2}, {2, 3, 5}, {2, 3, 4, 8, 11, 12}, {1, 2, 3, 4, 8, 11}, {4, 10, 11}} {
			refuses(t, fmt.Sprintf("kind %d of %v", kind, uids), some(), change(uids...), api.ErrNone)
		}
		refuses(t, "a mail of no mails", with(9), change(3), api.ErrNone)
		refuses(t, "most numbers", some(), change(rising(0, api.MaxList, 1)...), api.ErrNone)
		gone, _, _ := box.Do(some(), api.Change{Kind: api.ChangeExpunge, Uids: []uint32{2}})
		refuses(t, "a mail that has gone", gone, change(2, 3), api.ErrNone)
		full := with(api.MaxMails+1, rising(1, api.MaxMails, 1)...)
		if _, told, errno := box.Do(full, change(rising(1, api.MaxMails, 1)...)); len(told) != api.MaxMails || errno != api.OK {
			t.Errorf("kind %d of MaxMails mails: %d, %d", kind, len(told), errno)
		}
	}
}

// 19.2, 19.6
func TestExpunge(t *testing.T) {
	expunge := func(uids ...uint32) api.Change { return api.Change{Kind: api.ChangeExpunge, Uids: uids} }
	for _, c := range []struct{ uids, gone []uint32 }{
		{nil, nil}, {[]uint32{2}, []uint32{2}}, {[]uint32{4}, []uint32{4}}, {[]uint32{11}, []uint32{11}},
		{[]uint32{3}, nil}, {[]uint32{3, 8}, nil}, {[]uint32{2, 3}, []uint32{2}}, {[]uint32{3, 4, 8}, []uint32{4}},
		{[]uint32{2, 3, 4, 8, 11}, []uint32{2, 4, 11}}, {[]uint32{0, 1, 5, 7, 9, 12, math.MaxUint32}, nil},
		{[]uint32{0, 4, 5, 11, 12}, []uint32{4, 11}}, {rising(0, api.MaxList, 1), []uint32{2, 4, 11}},
	} {
		want := some()
		want.Messages = slices.DeleteFunc(want.Messages, func(m api.Message) bool { return slices.Contains(c.gone, m.Uid) })
		does(t, fmt.Sprintf("an expunge of %d numbers", len(c.uids)), some(), expunge(c.uids...), want, c.gone...)
	}
	does(t, "an expunge of no mails", with(9), expunge(3), with(9))
	for flags := range api.FlagAll + 1 {
		b := one(func(m *api.Message) { m.Flags = flags })
		if flags&api.FlagDeleted != 0 {
			does(t, "a mail that is to go", b, expunge(5), with(9), 5)
		} else {
			does(t, "a mail that is not to go", b, expunge(5), b)
		}
	}
}

// 19.2, 19.3
func TestSelect(t *testing.T) {
	choose, add := api.Change{Kind: api.ChangeSelect}, api.Change{Kind: api.ChangeAppend}
	b, _ := box.Make(4)
	for i, step := range []struct {
		c          api.Change
		mark, last uint32
		recent     []uint32
	}{
		{choose, 0, 0, nil}, {choose, 0, 0, nil},
		{add, 0, 0, []uint32{1}}, {add, 0, 0, []uint32{1, 2}},
		{choose, 0, 2, []uint32{1, 2}},
		{add, 0, 2, []uint32{1, 2, 3}},
		{choose, 2, 3, []uint32{3}}, {choose, 3, 3, nil}, {choose, 3, 3, nil},
		{add, 3, 3, []uint32{4}}, {add, 3, 3, []uint32{4, 5}}, {choose, 3, 5, []uint32{4, 5}},
		{api.Change{Kind: api.ChangeAdd, Uids: []uint32{1, 4}, Flags: api.FlagDeleted}, 3, 5, []uint32{4, 5}},
		{api.Change{Kind: api.ChangeExpunge, Uids: []uint32{1, 2, 4}}, 3, 5, []uint32{5}},
		{choose, 5, 5, nil},
	} {
		mails := len(b.Messages)
		got, told, errno := box.Do(b, step.c)
		if got.Mark != step.mark || got.Last != step.last || errno != api.OK {
			t.Errorf("step %d: Mark %d, Last %d, %d", i, got.Mark, got.Last, errno)
		}
		if step.c.Kind == api.ChangeSelect && (len(told) != 0 || len(got.Messages) != mails || got.Next != b.Next) {
			t.Errorf("step %d: a select tells %v, and leaves %v of %v", i, told, got, b)
		}
		if recent, errno := box.Recent(got); !slices.Equal(recent, step.recent) || errno != api.OK {
			t.Errorf("step %d: Recent tells %v, %d", i, recent, errno)
		}
		b = got
	}
	far := with(api.MaxUid+1, api.MaxUid)
	want := far
	want.Last = api.MaxUid
	does(t, "the greatest Next", far, choose, want)
	again := want
	again.Mark = api.MaxUid
	does(t, "the greatest Last", want, choose, again)
}

// 19.3, P2
func TestFindAndPlace(t *testing.T) {
	for what, b := range right() {
		for _, i := range []int{0, len(b.Messages) / 2, len(b.Messages) - 1} {
			if len(b.Messages) == 0 {
				break
			}
			m := b.Messages[i]
			if got, errno := box.Find(b, m.Uid); got != m || errno != api.OK {
				t.Errorf("%s: Find(%d) = %v, %d", what, m.Uid, got, errno)
			}
			if place, errno := box.Place(b, m.Uid); place != i+1 || errno != api.OK {
				t.Errorf("%s: Place(%d) = %d, %d", what, m.Uid, place, errno)
			}
		}
	}
	gone, _, _ := box.Do(some(), api.Change{Kind: api.ChangeExpunge, Uids: []uint32{2}})
	for _, c := range []struct {
		b    api.Box
		uids []uint32
	}{
		{some(), []uint32{0, 1, 5, 7, 9, 10, 12, math.MaxUint32}},
		{with(1), []uint32{0, 1, 2}},
		{gone, []uint32{0, 1, 2, 12}},
	} {
		for _, uid := range c.uids {
			if got, errno := box.Find(c.b, uid); got != (api.Message{}) || errno != api.ErrNone {
				t.Errorf("Find(%d) = %v, %d, not ErrNone alone", uid, got, errno)
			}
			if place, errno := box.Place(c.b, uid); place != 0 || errno != api.ErrNone {
				t.Errorf("Place(%d) = %d, %d, not ErrNone alone", uid, place, errno)
			}
		}
	}
	if place, errno := box.Place(gone, 3); place != 1 || errno != api.OK {
		t.Errorf("behind the first mail that has gone: %d, %d", place, errno)
	}
}

// 19.3
func TestUidsAndRecent(t *testing.T) {
	for what, b := range right() {
		var all, recent []uint32
		for _, m := range b.Messages {
			all = append(all, m.Uid)
			if m.Uid > b.Mark {
				recent = append(recent, m.Uid)
			}
		}
		if l, errno := box.Uids(b); !slices.Equal(l, all) || errno != api.OK {
			t.Errorf("Uids of %s: %v, %d", what, l, errno)
		}
		if l, errno := box.Recent(b); !slices.Equal(l, recent) || errno != api.OK {
			t.Errorf("Recent of %s: %v, %d", what, l, errno)
		}
	}
	for mark, many := range map[uint32]int{0: 5, 1: 5, 2: 4, 3: 3, 4: 2, 7: 2, 8: 1, 10: 1, 11: 0} {
		b := some()
		b.Mark, b.Last = mark, 11
		if l, errno := box.Recent(b); len(l) != many || errno != api.OK {
			t.Errorf("Recent above %d: %v, %d", mark, l, errno)
		}
	}
}

// 19.3, P2
func TestAskingOfWhatIsNotRight(t *testing.T) {
	for what, b := range wrong() {
		for _, uid := range []uint32{0, 1, 2, 5, math.MaxUint32} {
			if m, errno := box.Find(b, uid); m != (api.Message{}) || errno != api.ErrForm {
				t.Errorf("Find in %s: %v, %d, not ErrForm alone", what, m, errno)
			}
			if place, errno := box.Place(b, uid); place != 0 || errno != api.ErrForm {
				t.Errorf("Place in %s: %d, %d, not ErrForm alone", what, place, errno)
			}
		}
		if l, errno := box.Uids(b); len(l) != 0 || errno != api.ErrForm {
			t.Errorf("Uids of %s: %v, %d, not ErrForm alone", what, l, errno)
		}
		if l, errno := box.Recent(b); len(l) != 0 || errno != api.ErrForm {
			t.Errorf("Recent of %s: %v, %d, not ErrForm alone", what, l, errno)
		}
	}
}

// 19.2, 19.3: the chapter's example
func TestExample(t *testing.T) {
	b, _ := box.Make(1)
	for _, c := range []api.Change{
		{Kind: api.ChangeAppend}, {Kind: api.ChangeAppend},
		{Kind: api.ChangeAdd, Uids: []uint32{1}, Flags: api.FlagDeleted},
		{Kind: api.ChangeExpunge, Uids: []uint32{1}},
	} {
		var errno api.Errno
		if b, _, errno = box.Do(b, c); errno != api.OK {
			t.Fatalf("Do: %d", errno)
		}
	}
	l, _ := box.Uids(b)
	if place, errno := box.Place(b, 2); !slices.Equal(l, []uint32{2}) || place != 1 || errno != api.OK {
		t.Errorf("%v are left, 2 at place %d, %d", l, place, errno)
	}
}

// shares tells whether two texts have a byte of memory together.
func shares(a, b string) bool {
	if a == "" || b == "" {
		return false
	}
	x, y := uintptr(unsafe.Pointer(unsafe.StringData(a))), uintptr(unsafe.Pointer(unsafe.StringData(b)))
	return x < y+uintptr(len(b)) && y < x+uintptr(len(a))
}

// textsOf tells all texts of a box.
func textsOf(b api.Box) []string {
	var l []string
	for _, m := range b.Messages {
		l = append(l, m.Raw)
	}
	return l
}

// own copies a box, with room behind its mails, and with the bytes of its texts: texts that are written down may share memory from the start.
func own(b api.Box) api.Box {
	b.Messages = append(make([]api.Message, 0, len(b.Messages)+9), b.Messages...)
	for i := range b.Messages {
		b.Messages[i].Raw = strings.Clone(b.Messages[i].Raw)
	}
	return b
}

// changesOfAll are changes of each kind, of which some are refused.
func changesOfAll() []api.Change {
	uids := append(make([]uint32, 0, 9), 2, 4, 11)
	l := []api.Change{
		{Kind: api.ChangeAppend, Raw: strings.Clone("a mail that comes")}, {Kind: api.ChangeAppend, Raw: strings.Clone("y"), Flags: api.FlagDraft},
		{Kind: api.ChangeExpunge, Uids: uids}, {Kind: api.ChangeExpunge, Uids: []uint32{3, 8}}, {Kind: api.ChangeSelect}, {}, {Kind: api.ChangeSelect, Raw: strings.Clone("wrong")},
	}
	for _, kind := range marks() {
		l = append(l, api.Change{Kind: kind, Uids: uids, Flags: api.FlagAll}, api.Change{Kind: kind, Uids: []uint32{2, 5}, Flags: api.FlagAll}, api.Change{Kind: kind})
	}
	return l
}

// 19.4
func TestAnswersAreNewMemory(t *testing.T) {
	b, given, changes := own(some()), some(), changesOfAll()
	texts := textsOf(b)
	var boxes []api.Box
	var lists [][]uint32
	for _, c := range changes {
		texts = append(texts, c.Raw)
		for range 2 {
			got, told, _ := box.Do(b, c)
			boxes, lists = append(boxes, got), append(lists, told)
			texts = append(texts, textsOf(got)...)
		}
	}
	for _, m := range b.Messages {
		for range 2 {
			found, _ := box.Find(b, m.Uid)
			texts = append(texts, found.Raw)
			all, _ := box.Uids(b)
			recent, _ := box.Recent(b)
			lists = append(lists, all, recent)
		}
	}
	for i := range texts {
		for j := range i {
			if shares(texts[i], texts[j]) {
				t.Errorf("texts %d and %d, %q, share their memory", j, i, texts[i])
			}
		}
	}
	kept := make([]string, len(boxes))
	for i, got := range boxes {
		kept[i] = fmt.Sprint(got)
	}
	for i, got := range boxes {
		if fmt.Sprint(got) != kept[i] {
			t.Errorf("box %d shares memory with another one", i)
		}
		for j := range got.Messages {
			got.Messages[j] = api.Message{Uid: 99, Raw: "changed"}
		}
		_ = append(got.Messages, api.Message{Uid: 98})
	}
	told := make([]string, len(lists))
	for i, l := range lists {
		told[i] = fmt.Sprint(l)
	}
	for i, l := range lists {
		if fmt.Sprint(l) != told[i] {
			t.Errorf("list %d shares memory with another one", i)
		}
		for j := range l {
			l[j] = 97
		}
		_ = append(l, 96)
	}
	if !same(b, given) {
		t.Errorf("what is handed in is changed: %v", b)
	}
	for i, c := range changesOfAll() {
		if fmt.Sprint(c) != fmt.Sprint(changes[i]) {
			t.Errorf("change %d is changed: %v", i, changes[i])
		}
	}
}

// 19.4
func TestNothingIsKept(t *testing.T) {
	b := own(some())
	uids := []uint32{2, 3}
	got, told, _ := box.Do(b, api.Change{Kind: api.ChangeSet, Uids: uids})
	behind := b.Messages[:cap(b.Messages)]
	more, _, _ := box.Do(b, api.Change{Kind: api.ChangeAppend, Raw: "x"})
	if behind[5] != (api.Message{}) || len(more.Messages) != 6 {
		t.Errorf("an append writes behind what is handed in: %v", behind[5])
	}
	b.Messages[0], uids[0] = api.Message{Uid: 1}, 1
	if m, errno := box.Find(got, 2); m.Raw != some().Messages[0].Raw || errno != api.OK || told[0] != 2 {
		t.Errorf("what is handed in is kept: %v, %d, %v", m, errno, told)
	}
}

// model is a box as the chapter words it, by maps.
type model struct {
	next       uint64
	mark, last uint32
	mails      map[uint32]api.Message
}

// do tells what Do has to tell of a change that is right, and changes the model.
func (m *model) do(c api.Change) ([]uint32, api.Errno) {
	var told []uint32
	switch c.Kind {
	case api.ChangeAppend:
		if m.next > api.MaxUid {
			return nil, api.ErrFull
		}
		m.mails[uint32(m.next)] = api.Message{Uid: uint32(m.next), Flags: c.Flags, Inner: c.Inner, Raw: c.Raw}
		told = append(told, uint32(m.next))
		m.next++
	case api.ChangeExpunge:
		for _, uid := range c.Uids {
			if mail, is := m.mails[uid]; is && mail.Flags&api.FlagDeleted != 0 {
				delete(m.mails, uid)
				told = append(told, uid)
			}
		}
	case api.ChangeSelect:
		m.mark, m.last = m.last, uint32(m.next-1)
	default:
		for _, uid := range c.Uids {
			if _, is := m.mails[uid]; !is {
				return nil, api.ErrNone
			}
		}
		for _, uid := range c.Uids {
			mail := m.mails[uid]
			switch c.Kind {
			case api.ChangeSet:
				mail.Flags = c.Flags
			case api.ChangeAdd:
				mail.Flags |= c.Flags
			case api.ChangeRemove:
				mail.Flags &= ^c.Flags
			}
			m.mails[uid] = mail
		}
		told = append(told, c.Uids...)
	}
	return told, api.OK
}

// box tells the model as a plain box.
func (m *model) box() api.Box {
	b := api.Box{Validity: 9, Next: m.next, Mark: m.mark, Last: m.last}
	for _, uid := range slices.Sorted(maps.Keys(m.mails)) {
		b.Messages = append(b.Messages, m.mails[uid])
	}
	return b
}

// randomChange tells one that is right, mostly of mails that there are.
func randomChange(r *rand.Rand, b api.Box) api.Change {
	c := api.Change{Kind: api.ChangeKind(1 + r.Intn(int(api.ChangeCount)-1))}
	if c.Kind == api.ChangeAppend {
		return api.Change{Kind: c.Kind, Flags: api.Flag(r.Intn(int(api.FlagAll) + 1)), Inner: api.Time{Day: r.Intn(9) - 4, Second: r.Intn(86400), Zone: r.Intn(99) - 50}, Raw: strings.Repeat("x", r.Intn(9))}
	}
	if c.Kind == api.ChangeSelect {
		return c
	}
	for _, m := range b.Messages {
		if r.Intn(3) == 0 {
			c.Uids = append(c.Uids, m.Uid)
		}
	}
	if r.Intn(4) == 0 {
		c.Uids = append(c.Uids, uint32(b.Next-1)-uint32(r.Intn(9)))
		slices.Sort(c.Uids)
		c.Uids = slices.Compact(c.Uids)
	}
	if c.Kind != api.ChangeExpunge {
		c.Flags = api.Flag(r.Intn(int(api.FlagAll) + 1))
	}
	return c
}

// 19.2, 19.5, 19.6, P1 to P4: many changes, each held against a model
func TestManyChanges(t *testing.T) {
	ahead := runtime.NumGoroutine()
	r := rand.New(rand.NewSource(1))
	errnos := map[api.Errno]int{}
	for range 300 {
		m := model{next: 1, mails: map[uint32]api.Message{}}
		if r.Intn(3) == 0 {
			m.next = api.MaxUid - uint64(r.Intn(9))
		}
		b := m.box()
		greatest := uint32(m.next - 1) // of all numbers that there were
		for range 60 {
			c := randomChange(r, b)
			want, wantErrno := m.do(c)
			got, told, errno := box.Do(b, c)
			if !same(got, m.box()) || !slices.Equal(told, want) || errno != wantErrno || box.Check(got) != api.OK {
				t.Fatalf("Do(%v, %v) = %v, %v, %d, not %v, %v, %d", b, c, got, told, errno, m.box(), want, wantErrno)
			}
			if c.Kind == api.ChangeAppend && errno == api.OK {
				if told[0] <= greatest {
					t.Fatalf("the number %d comes behind %d", told[0], greatest)
				}
				greatest = told[0]
			}
			errnos[errno]++
			b = got
		}
	}
	if errnos[api.OK] < 5000 || errnos[api.ErrNone] < 500 || errnos[api.ErrFull] < 200 {
		t.Errorf("the errors were %v", errnos)
	}
	if behind := runtime.NumGoroutine(); behind > ahead { // fewer, if that of an earlier test was just ending
		t.Errorf("%d goroutines ahead, %d behind", ahead, behind)
	}
}

// randomBox tells one that may be right.
func randomBox(r *rand.Rand) api.Box {
	odd := func(often int) bool { return r.Intn(often) == 0 }
	b := some()
	if odd(8) {
		b.Validity = uint32(r.Intn(2))
	}
	if odd(4) {
		b.Next = r.Uint64() >> r.Intn(64)
	}
	if odd(4) {
		b.Mark, b.Last = uint32(r.Intn(14)), uint32(r.Intn(14))
	}
	for i := range b.Messages {
		m := &b.Messages[i]
		if odd(20) {
			m.Uid = r.Uint32() >> r.Intn(32)
		}
		if odd(20) {
			m.Flags = api.Flag(r.Intn(256))
		}
		if odd(20) {
			m.Inner = api.Time{Day: int(int32(r.Uint32())) >> r.Intn(32), Second: r.Intn(90000), Zone: r.Intn(13000) - 6500}
		}
	}
	return b
}

// plainlyRight says of a box what the chapter says, word for word.
func plainlyRight(b api.Box) bool {
	is := b.Validity != 0 && b.Next >= 1 && b.Next <= 1<<32 && len(b.Messages) <= 4096 && b.Mark <= b.Last && uint64(b.Last) < b.Next
	for i, m := range b.Messages {
		is = is && m.Uid >= 1 && uint64(m.Uid) < b.Next && (i == 0 || m.Uid > b.Messages[i-1].Uid) && m.Flags <= 31 && len(m.Raw) <= 65536
		is = is && m.Inner.Day >= api.MinDay && m.Inner.Day <= api.MaxDay && m.Inner.Second >= 0 && m.Inner.Second < 86400 && m.Inner.Zone > -6000 && m.Inner.Zone < 6000
	}
	return is
}

// 19.1 to 19.3, P1: whatever is handed in is answered
func TestAnyBoxIsAnswered(t *testing.T) {
	r := rand.New(rand.NewSource(2))
	are := map[bool]int{}
	for range 40000 {
		b := randomBox(r)
		is := plainlyRight(b)
		want := api.ErrForm
		if is {
			want = api.OK
		}
		are[is]++
		c := api.Change{Kind: api.ChangeKind(r.Intn(9)), Uids: rising(uint32(r.Intn(4)), r.Intn(4), uint32(r.Intn(3))), Flags: api.Flag(r.Intn(40)), Raw: strings.Repeat("x", r.Intn(2))}
		if errno := box.Check(b); errno != want {
			t.Fatalf("Check(%v) = %d", b, errno)
		}
		got, told, errno := box.Do(b, c)
		if !is && (!same(got, api.Box{}) || len(told) != 0 || errno != api.ErrForm) || is && box.Check(got) != api.OK || is && errno != api.OK && !same(got, b) {
			t.Fatalf("Do(%v, %v) = %v, %v, %d", b, c, got, told, errno)
		}
		if l, errno := box.Uids(b); errno != want || is && len(l) != len(b.Messages) {
			t.Fatalf("Uids(%v) = %v, %d", b, l, errno)
		}
		if _, errno := box.Recent(b); errno != want {
			t.Fatalf("Recent(%v): %d", b, errno)
		}
		uid := uint32(r.Intn(14))
		place, errno := box.Place(b, uid)
		m, errno2 := box.Find(b, uid)
		if errno != errno2 || is && errno == api.OK && b.Messages[place-1] != m {
			t.Fatalf("Place(%v, %d) = %d, %d, and Find tells %v, %d", b, uid, place, errno, m, errno2)
		}
	}
	if are[true] < 5000 || are[false] < 5000 {
		t.Errorf("right were %d, not right %d", are[true], are[false])
	}
}
