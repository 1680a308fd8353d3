package sess_test

import (
	"fmt"
	"math"
	"math/rand"
	"reflect"
	"runtime"
	"slices"
	"strings"
	"testing"
	"unsafe"

	"missive/api"
	"missive/box"
	"missive/sess"
)

// The signatures that the chapter lists.
var (
	_ func(api.Session) api.Errno                                             = sess.Check
	_ func(api.Session, api.Box, bool, bool) (api.Session, string, api.Errno) = sess.News
	_ func(api.Session, api.Box, bool) (api.Session, string, api.Errno)       = sess.Select
	_ func(api.Session, []api.Span, bool) ([]uint32, api.Errno)               = sess.Uids
	_ func(api.Session, []uint32) ([]uint32, api.Errno)                       = sess.Places
	_ func(api.Session, api.Box, ...uint32) (api.Session, api.Errno)          = sess.Mark
)

const greatest = math.MaxUint32

// known tells a session to which these mails are known, without flags.
func known(uids ...uint32) api.Session {
	return api.Session{Phase: api.SessSelected, Known: uids, Marks: make([]api.Flag, len(uids))}
}

// marked tells a session with other marks.
func marked(s api.Session, marks ...api.Flag) api.Session {
	s.Marks = marks
	return s
}

// readOnly tells a session that may only read.
func readOnly(s api.Session) api.Session {
	s.ReadOnly = true
	return s
}

// holding tells a box of mails with these numbers, without flags, none of which is recent.
func holding(uids ...uint32) api.Box {
	b := api.Box{Validity: 5, Next: 1}
	for _, n := range uids {
		b.Messages = append(b.Messages, api.Message{Uid: n, Raw: fmt.Sprint("A: ", n, "\n\nmail")})
		b.Next = uint64(n) + 1
	}
	b.Mark, b.Last = uint32(b.Next-1), uint32(b.Next-1)
	return b
}

// flagged tells a box with other flags of its first mails.
func flagged(b api.Box, flags ...api.Flag) api.Box {
	b.Messages = slices.Clone(b.Messages)
	for i, f := range flags {
		b.Messages[i].Flags = f
	}
	return b
}

// recent tells a box whose mails above mark are recent.
func recent(b api.Box, mark uint32) api.Box {
	b.Mark = mark
	return b
}

// upTo tells the numbers from 1 on.
func upTo(n int) []uint32 {
	l := make([]uint32, n)
	for i := range l {
		l[i] = uint32(i + 1)
	}
	return l
}

// even tells as many even numbers.
func even(n int) []uint32 {
	l := upTo(n)
	for i := range l {
		l[i] *= 2
	}
	return l
}

// same takes nil and empty lists as alike.
func same(a, b api.Session) bool {
	return a.Phase == b.Phase && a.ReadOnly == b.ReadOnly && slices.Equal(a.Known, b.Known) && slices.Equal(a.Marks, b.Marks)
}

// wrongSessions are sessions that are not right, each in one way.
func wrongSessions() map[string]api.Session {
	return map[string]api.Session{
		"a phase that there is not":        {Phase: api.SessCount},
		"the last phase of all":            {Phase: 255},
		"that phase, with mails":           {Phase: api.SessCount, Known: []uint32{1}, Marks: []api.Flag{0}},
		"numbers that fall":                known(2, 1),
		"numbers that fall at the end":     known(1, 2, 9, 8),
		"a number twice":                   known(1, 2, 2),
		"a 0":                              known(0),
		"a 0 ahead of others":              known(0, 1, 2),
		"a 0 behind others":                known(1, 0),
		"more than MaxMails":               known(upTo(api.MaxMails + 1)...),
		"fewer marks":                      marked(known(1, 2), 0),
		"no marks":                         marked(known(1, 2)),
		"more marks":                       marked(known(1, 2), 0, 0, 0),
		"marks of no mails":                marked(known(), 0),
		"a mark outside of FlagAll":        marked(known(1, 2), api.FlagAll, api.FlagAll+1),
		"the greatest mark":                marked(known(1, 2), 255, 0),
		"mails known, nobody in":           {Known: []uint32{1}, Marks: []api.Flag{0}},
		"mails known, nothing selected":    {Phase: api.SessIn, Known: []uint32{1}, Marks: []api.Flag{0}},
		"mails known, gone":                {Phase: api.SessGone, Known: []uint32{1}, Marks: []api.Flag{0}},
		"marks alone, nothing selected":    {Phase: api.SessIn, Marks: []api.Flag{0}},
		"to be read alone, nobody in":      {ReadOnly: true},
		"to be read alone, nothing chosen": {Phase: api.SessIn, ReadOnly: true},
		"to be read alone, gone":           {Phase: api.SessGone, ReadOnly: true},
	}
}

// rightSessions are sessions that are right.
func rightSessions() map[string]api.Session {
	return map[string]api.Session{
		"nobody in":              {},
		"somebody in":            {Phase: api.SessIn},
		"gone":                   {Phase: api.SessGone},
		"empty lists":            {Phase: api.SessIn, Known: []uint32{}, Marks: []api.Flag{}},
		"no mails":               known(),
		"no mails, to be read":   readOnly(known()),
		"one mail":               known(1),
		"the greatest number":    known(1, greatest),
		"the greatest one alone": marked(known(greatest), api.FlagAll),
		"marks":                  marked(readOnly(known(2, 5, 6)), api.FlagSeen, 0, api.FlagAll),
		"MaxMails":               known(even(api.MaxMails)...),
	}
}

// wrongBoxes are boxes that are not right.
func wrongBoxes() map[string]api.Box {
	fall := holding(1, 2)
	fall.Messages[0].Uid = 3
	high := holding(1, 2)
	high.Next = 2
	return map[string]api.Box{
		"none":                  {},
		"no validity":           {Next: 1},
		"no next number":        {Validity: 1},
		"numbers that fall":     fall,
		"a number above":        high,
		"no flag":               flagged(holding(1, 2), api.FlagAll+1),
		"a mark above the last": recent(holding(1, 2), 3),
	}
}

// 31.1
func TestCheck(t *testing.T) {
	for what, s := range wrongSessions() {
		if errno := sess.Check(s); errno != api.ErrForm {
			t.Errorf("Check of %s: %d", what, errno)
		}
	}
	for what, s := range rightSessions() {
		if errno := sess.Check(s); errno != api.OK {
			t.Errorf("Check of %s: %d", what, errno)
		}
	}
}

// refused sees that all five calls answer an error alone, whatever else they are handed.
func refused(t *testing.T, what string, s api.Session, b api.Box, want api.Errno, selects bool) {
	t.Helper()
	for _, one := range []bool{false, true} {
		for _, two := range []bool{false, true} {
			if got, text, errno := sess.News(s, b, one, two); !same(got, api.Session{}) || text != "" || errno != want {
				t.Errorf("News of %s: %v, %q, %d, not %d alone", what, got, text, errno, want)
			}
		}
		if !selects {
			continue
		}
		if got, text, errno := sess.Select(s, b, one); !same(got, api.Session{}) || text != "" || errno != want {
			t.Errorf("Select of %s: %v, %q, %d, not %d alone", what, got, text, errno, want)
		}
	}
	for _, l := range [][]uint32{nil, {1}, {0, 9}} {
		if got, errno := sess.Mark(s, b, l...); !same(got, api.Session{}) || errno != want {
			t.Errorf("Mark of %s: %v, %d, not %d alone", what, got, errno, want)
		}
	}
}

// unasked is refused of the two calls that have no box.
func unasked(t *testing.T, what string, s api.Session, want api.Errno) {
	t.Helper()
	for _, uid := range []bool{false, true} {
		for _, set := range [][]api.Span{nil, {{From: 1, To: 1}}, {{}}, make([]api.Span, api.MaxSpans+1)} {
			if got, errno := sess.Uids(s, set, uid); len(got) > 0 || errno != want {
				t.Errorf("Uids of %s: %d, %d, not %d alone", what, got, errno, want)
			}
		}
	}
	for _, l := range [][]uint32{nil, {1}, {0, 9}} {
		if got, errno := sess.Places(s, l); len(got) > 0 || errno != want {
			t.Errorf("Places of %s: %d, %d, not %d alone", what, got, errno, want)
		}
	}
}

// 31.1, 31.2, P2, P3: what is not right is told ahead of all else
func TestWhatIsNotRight(t *testing.T) {
	boxes := wrongBoxes()
	boxes["a right one"] = holding(1, 2)
	for what, s := range wrongSessions() {
		for which, b := range boxes {
			refused(t, what+", of the box "+which, s, b, api.ErrForm, true)
		}
		unasked(t, what, s, api.ErrForm)
	}
	for which, b := range wrongBoxes() {
		for what, s := range rightSessions() {
			refused(t, what+", of the box "+which, s, b, api.ErrForm, true)
		}
	}
}

// 31.1, 31.2: phases in which nothing is known
func TestNotNow(t *testing.T) {
	for _, phase := range []api.SessPhase{api.SessOut, api.SessIn, api.SessGone} {
		s := api.Session{Phase: phase}
		what := fmt.Sprint("the phase ", phase)
		refused(t, what, s, holding(), api.ErrState, false)
		refused(t, what, s, holding(1, 9), api.ErrState, false)
		unasked(t, what, s, api.ErrState)
	}
}

// row is what is told of a session and a box.
type row struct {
	s            api.Session
	b            api.Box
	expunge, uid bool
	behind       api.Session
	text         string
}

// rows have news of each kind.
func rows() map[string]row {
	seen, gone, all := api.FlagSeen, api.FlagDeleted, api.FlagAll
	return map[string]row{
		"nothing":                              {s: known(1, 2), b: holding(1, 2), expunge: true, behind: known(1, 2)},
		"no box's mails, nothing known":        {s: known(), b: holding(), expunge: true, behind: known()},
		"all gone":                             {known(1, 2, 9), holding(), true, false, known(), "* 1 EXPUNGE\r\n* 1 EXPUNGE\r\n* 1 EXPUNGE\r\n"},
		"all gone, and not told":               {s: known(1, 2, 9), b: holding(), behind: known(1, 2, 9)},
		"the document's example":               {known(1, 2, 3), holding(1, 3), true, false, known(1, 3), "* 2 EXPUNGE\r\n"},
		"the document's example, and not told": {s: known(1, 2, 3), b: holding(1, 3), behind: known(1, 2, 3)},
		"several gone, one behind the other":   {known(1, 2, 3, 4, 5, 6), holding(3, 6), true, false, known(3, 6), "* 1 EXPUNGE\r\n* 1 EXPUNGE\r\n* 2 EXPUNGE\r\n* 2 EXPUNGE\r\n"},
		"each second one gone":                 {known(1, 2, 3, 4, 5), holding(2, 4), true, true, known(2, 4), "* 1 EXPUNGE\r\n* 2 EXPUNGE\r\n* 3 EXPUNGE\r\n"},
		"the last one gone":                    {known(7, 8), holding(7), true, false, known(7), "* 2 EXPUNGE\r\n"},
		"flags": {known(1, 2, 3), flagged(holding(1, 2, 3), 0, seen, all), true, false, marked(known(1, 2, 3), 0, seen, all),
			"* 2 FETCH (FLAGS (\\Seen))\r\n* 3 FETCH (FLAGS (\\Seen \\Answered \\Flagged \\Deleted \\Draft))\r\n"},
		"flags, by numbers": {known(1, 20, 30), flagged(holding(1, 20, 30), 0, seen, gone), true, true, marked(known(1, 20, 30), 0, seen, gone),
			"* 2 FETCH (FLAGS (\\Seen) UID 20)\r\n* 3 FETCH (FLAGS (\\Deleted) UID 30)\r\n"},
		"no flags any more":     {marked(known(1, 2), all, seen), holding(1, 2), true, false, known(1, 2), "* 1 FETCH (FLAGS ())\r\n* 2 FETCH (FLAGS ())\r\n"},
		"flags that are marked": {s: marked(known(1, 2), all, seen), b: flagged(holding(1, 2), all, seen), expunge: true, behind: marked(known(1, 2), all, seen)},
		"flags of recent ones": {known(1, 2, 3), recent(flagged(holding(1, 2, 3), seen, seen, 0), 1), true, false, marked(known(1, 2, 3), seen, seen, 0),
			"* 1 FETCH (FLAGS (\\Seen))\r\n* 2 FETCH (FLAGS (\\Seen \\Recent))\r\n"},
		"none of a recent one": {marked(known(1, 2), 0, all), recent(holding(1, 2), 1), false, true, known(1, 2), "* 2 FETCH (FLAGS (\\Recent) UID 2)\r\n"},
		"flags beside one that has gone": {marked(known(1, 2, 3), 0, seen, 0), flagged(holding(1, 3), 0, gone), true, false, marked(known(1, 3), 0, gone),
			"* 2 EXPUNGE\r\n* 2 FETCH (FLAGS (\\Deleted))\r\n"},
		"flags beside one that has gone, and not told": {marked(known(1, 2, 3), 0, seen, 0), flagged(holding(1, 3), 0, gone), false, false, marked(known(1, 2, 3), 0, seen, gone),
			"* 3 FETCH (FLAGS (\\Deleted))\r\n"},
		"marks of those that stay":                       {marked(known(1, 2, 3, 4), seen, gone, all, 0), flagged(holding(3, 4), all, 0), true, false, marked(known(3, 4), all, 0), "* 1 EXPUNGE\r\n* 1 EXPUNGE\r\n"},
		"the first mails":                                {known(), recent(flagged(holding(4, 5), seen), 4), true, false, marked(known(4, 5), seen, 0), "* 2 EXISTS\r\n* 1 RECENT\r\n"},
		"new mails":                                      {known(1, 2), recent(flagged(holding(1, 2, 7, 8), 0, 0, gone), 1), false, true, marked(known(1, 2, 7, 8), 0, 0, gone, 0), "* 4 EXISTS\r\n* 3 RECENT\r\n"},
		"new ones beside others that went":               {known(1, 2), flagged(holding(2, 9), 0, all), true, false, marked(known(2, 9), 0, all), "* 1 EXPUNGE\r\n* 2 EXISTS\r\n* 0 RECENT\r\n"},
		"new ones beside others that went, and not told": {known(1, 2), flagged(holding(2, 9), 0, all), false, false, marked(known(1, 2, 9), 0, 0, all), "* 3 EXISTS\r\n* 0 RECENT\r\n"},
		"all at once": {marked(known(1, 2, 3), 0, 0, seen), recent(flagged(holding(1, 3, 4, 6), seen, gone), 3), true, true, marked(known(1, 3, 4, 6), seen, gone, 0, 0),
			"* 2 EXPUNGE\r\n* 1 FETCH (FLAGS (\\Seen) UID 1)\r\n* 2 FETCH (FLAGS (\\Deleted) UID 3)\r\n* 4 EXISTS\r\n* 2 RECENT\r\n"},
		"one between that is not known":           {s: known(1, 5), b: holding(1, 3, 5), expunge: true, behind: known(1, 5)},
		"one below those that went":               {known(1, 5), holding(1, 3), true, false, known(1, 3), "* 2 EXPUNGE\r\n* 2 EXISTS\r\n* 0 RECENT\r\n"},
		"one below those that went, and not told": {s: known(1, 5), b: holding(1, 3), behind: known(1, 5)},
		"the greatest number":                     {known(1), recent(holding(1, greatest), greatest-1), true, false, known(1, greatest), "* 2 EXISTS\r\n* 1 RECENT\r\n"},
		"the greatest number known":               {s: known(1, greatest), b: holding(1, greatest), expunge: true, behind: known(1, greatest)},
		"to be read alone": {readOnly(known(1, 2)), flagged(holding(2, 3), seen), true, false, readOnly(marked(known(2, 3), seen, 0)),
			"* 1 EXPUNGE\r\n* 1 FETCH (FLAGS (\\Seen))\r\n* 2 EXISTS\r\n* 0 RECENT\r\n"},
	}
}

// 31.1
func TestNews(t *testing.T) {
	for what, c := range rows() {
		got, text, errno := sess.News(c.s, c.b, c.expunge, c.uid)
		if !same(got, c.behind) || text != c.text || errno != api.OK {
			t.Errorf("%s: %v, %q, %d, not %v, %q", what, got, text, errno, c.behind, c.text)
		}
		again, text, errno := sess.News(got, c.b, c.expunge, c.uid)
		if !same(again, got) || text != "" || errno != api.OK {
			t.Errorf("%s, once more: %v, %q, %d", what, again, text, errno)
		}
	}
}

// 31.1: without expunges more mails may come to be known than a box has
func TestNewsOfMany(t *testing.T) {
	const most = api.MaxMails
	all := upTo(most + 2)
	for what, c := range map[string]struct {
		s, behind api.Session
		b         api.Box
		expunge   bool
		text      string
		errno     api.Errno
	}{
		"just MaxMails":                    {known(all[:most-1]...), known(all[:most]...), holding(all[1:most]...), false, "* 4096 EXISTS\r\n* 0 RECENT\r\n", api.OK},
		"one more":                         {known(all[:most]...), known(all[:most]...), holding(all[1 : most+1]...), false, "", api.ErrFull},
		"one more, as several come":        {known(all[:most-1]...), known(all[:most-1]...), holding(all[2 : most+1]...), false, "", api.ErrFull},
		"one more, and flags":              {known(all[:most]...), known(all[:most]...), flagged(holding(all[1:most+1]...), api.FlagSeen), false, "", api.ErrFull},
		"one more, to be read alone":       {readOnly(known(all[:most]...)), readOnly(known(all[:most]...)), holding(all[1 : most+1]...), false, "", api.ErrFull},
		"one more, and expunges":           {known(all[:most]...), known(all[1 : most+1]...), holding(all[1 : most+1]...), true, "* 1 EXPUNGE\r\n* 4096 EXISTS\r\n* 0 RECENT\r\n", api.OK},
		"MaxMails others":                  {known(all[:2]...), known(all[2 : most+2]...), holding(all[2 : most+2]...), true, "* 1 EXPUNGE\r\n* 1 EXPUNGE\r\n* 4096 EXISTS\r\n* 0 RECENT\r\n", api.OK},
		"MaxMails others, and not told":    {known(all[:2]...), known(all[:2]...), holding(all[2 : most+2]...), false, "", api.ErrFull},
		"MaxMails known, none of them new": {known(all[:most]...), known(all[:most]...), holding(all[:most]...), false, "", api.OK},
		"MaxMails that are gone":           {known(all[:most]...), known(), holding(), true, strings.Repeat("* 1 EXPUNGE\r\n", most), api.OK},
	} {
		got, text, errno := sess.News(c.s, c.b, c.expunge, false)
		if !same(got, c.behind) || text != c.text || errno != c.errno {
			t.Errorf("%s: %d known, %.60q, %d", what, len(got.Known), text, errno)
		}
	}
}

// 31.1
func TestSelect(t *testing.T) {
	const flags = "* FLAGS (\\Seen \\Answered \\Flagged \\Deleted \\Draft)\r\n"
	full := holding(greatest)
	for what, c := range map[string]struct {
		b      api.Box
		behind api.Session
		text   string
	}{
		"an empty box": {holding(), known(), "* 0 EXISTS\r\n* 0 RECENT\r\n* OK [UIDVALIDITY 5]\r\n* OK [UIDNEXT 1]\r\n"},
		"two mails": {flagged(holding(3, 8), api.FlagAll, api.FlagDraft), marked(known(3, 8), api.FlagAll, api.FlagDraft),
			"* 2 EXISTS\r\n* 0 RECENT\r\n* OK [UIDVALIDITY 5]\r\n* OK [UIDNEXT 9]\r\n"},
		"recent ones":         {recent(holding(1, 2, 4), 1), known(1, 2, 4), "* 3 EXISTS\r\n* 2 RECENT\r\n* OK [UIDVALIDITY 5]\r\n* OK [UIDNEXT 5]\r\n"},
		"all recent":          {recent(holding(1, 2, 4), 0), known(1, 2, 4), "* 3 EXISTS\r\n* 3 RECENT\r\n* OK [UIDVALIDITY 5]\r\n* OK [UIDNEXT 5]\r\n"},
		"the greatest next":   {api.Box{Validity: greatest, Next: greatest}, known(), "* 0 EXISTS\r\n* 0 RECENT\r\n* OK [UIDVALIDITY 4294967295]\r\n* OK [UIDNEXT 4294967295]\r\n"},
		"a next above MaxUid": {full, known(greatest), "* 1 EXISTS\r\n* 0 RECENT\r\n* OK [UIDVALIDITY 5]\r\n"},
		"as many as there can be": {holding(even(api.MaxMails)...), known(even(api.MaxMails)...),
			"* 4096 EXISTS\r\n* 0 RECENT\r\n* OK [UIDVALIDITY 5]\r\n* OK [UIDNEXT 8193]\r\n"},
	} {
		for _, only := range []bool{false, true} {
			want := c.behind
			want.ReadOnly = only
			for _, s := range []api.Session{{Phase: api.SessIn}, known(), readOnly(known(1)), marked(known(1, 3, 9), api.FlagAll, api.FlagSeen, 0)} {
				got, text, errno := sess.Select(s, c.b, only)
				if !same(got, want) || text != flags+c.text || errno != api.OK {
					t.Errorf("%s, of %v, read only %v: %v, %q, %d", what, s, only, got, text, errno)
				}
			}
			for _, phase := range []api.SessPhase{api.SessOut, api.SessGone} {
				s := api.Session{Phase: phase}
				got, text, errno := sess.Select(s, c.b, only)
				if !same(got, s) || text != "" || errno != api.ErrState {
					t.Errorf("%s, in the phase %d: %v, %q, %d, not ErrState and the session as it was", what, phase, got, text, errno)
				}
			}
		}
	}
}

// span tells a set of one span for each two ends.
func span(ends ...uint32) []api.Span {
	var l []api.Span
	for i := 0; i < len(ends); i += 2 {
		l = append(l, api.Span{From: ends[i], To: ends[i+1]})
	}
	return l
}

// is makes rows shorter.
func is(l ...uint32) []uint32 { return l }

// 31.2: places
func TestUidsByPlaces(t *testing.T) {
	three := marked(known(3, 7, 20), api.FlagAll, 0, 1)
	for _, c := range []struct {
		s     api.Session
		set   []api.Span
		want  []uint32
		errno api.Errno
	}{
		{three, span(1, 1), is(3), api.OK},
		{three, span(2, 2), is(7), api.OK},
		{three, span(3, 3), is(20), api.OK},
		{three, span(0, 0), is(20), api.OK},
		{three, span(2, 0), is(7, 20), api.OK},
		{three, span(0, 2), is(7, 20), api.OK},
		{three, span(3, 1), is(3, 7, 20), api.OK},
		{three, span(3, 3, 1, 1), is(3, 20), api.OK},
		{three, span(2, 2, 2, 3, 2, 2), is(7, 20), api.OK},
		{three, span(4, 4), nil, api.ErrNone},
		{three, span(1, 4), nil, api.ErrNone},
		{three, span(4, 1), nil, api.ErrNone},
		{three, span(0, 4), nil, api.ErrNone},
		{three, span(4, 0), nil, api.ErrNone},
		{three, span(1, 1, 5, 5), nil, api.ErrNone},
		{three, span(5, 5, 1, 1), nil, api.ErrNone},
		{three, span(7, 7), nil, api.ErrNone},
		{three, span(greatest, greatest), nil, api.ErrNone},
		{three, span(1, greatest), nil, api.ErrNone},
		{three, nil, nil, api.ErrRange},
		{three, make([]api.Span, api.MaxSpans), is(20), api.OK},
		{three, make([]api.Span, api.MaxSpans+1), nil, api.ErrRange},
		{three, slices.Repeat(span(9, 9), api.MaxSpans+1), nil, api.ErrRange},
		{known(), span(0, 0), nil, api.ErrNone},
		{known(), span(1, 1), nil, api.ErrNone},
		{known(), span(1, 0), nil, api.ErrNone},
		{known(), nil, nil, api.ErrRange},
		{readOnly(known(greatest)), span(1, 1), is(greatest), api.OK},
		{known(even(api.MaxMails)...), span(1, 0), even(api.MaxMails), api.OK},
		{known(even(api.MaxMails)...), span(4096, 4096), is(8192), api.OK},
		{known(even(api.MaxMails)...), span(4097, 4097), nil, api.ErrNone},
	} {
		if got, errno := sess.Uids(c.s, c.set, false); !slices.Equal(got, c.want) || errno != c.errno {
			t.Errorf("Uids of the places %.40v of %.40v: %.40v, %d", fmt.Sprint(c.set), fmt.Sprint(c.s.Known), fmt.Sprint(got), errno)
		}
	}
}

// 31.2: numbers
func TestUidsByNumbers(t *testing.T) {
	three := known(3, 7, 20)
	for _, c := range []struct {
		s     api.Session
		set   []api.Span
		want  []uint32
		errno api.Errno
	}{
		{three, span(3, 3), is(3), api.OK},
		{three, span(1, 1), nil, api.OK},
		{three, span(4, 6), nil, api.OK},
		{three, span(21, greatest), nil, api.OK},
		{three, span(1, greatest), is(3, 7, 20), api.OK},
		{three, span(7, 3), is(3, 7), api.OK},
		{three, span(0, 0), is(20), api.OK},
		{three, span(4, 0), is(7, 20), api.OK},
		{three, span(0, 21), is(20), api.OK},
		{three, span(30, 0), is(20), api.OK},
		{three, span(20, 20, 3, 3, 3, 4), is(3, 20), api.OK},
		{three, nil, nil, api.ErrRange},
		{three, make([]api.Span, api.MaxSpans), is(20), api.OK},
		{three, make([]api.Span, api.MaxSpans+1), nil, api.ErrRange},
		{known(), span(0, 0), nil, api.OK},
		{known(), span(1, 0), nil, api.OK},
		{known(), span(1, greatest), nil, api.OK},
		{known(), nil, nil, api.ErrRange},
		{known(greatest), span(0, 0), is(greatest), api.OK},
		{known(even(api.MaxMails)...), span(1, 0), even(api.MaxMails), api.OK},
		{known(even(api.MaxMails)...), span(8191, 8193), is(8192), api.OK},
	} {
		if got, errno := sess.Uids(c.s, c.set, true); !slices.Equal(got, c.want) || errno != c.errno {
			t.Errorf("Uids of the numbers %.40v of %.40v: %.40v, %d", fmt.Sprint(c.set), fmt.Sprint(c.s.Known), fmt.Sprint(got), errno)
		}
	}
}

// 31.2
func TestPlaces(t *testing.T) {
	three := known(3, 7, 20)
	for _, c := range []struct {
		s          api.Session
		uids, want []uint32
	}{
		{three, nil, nil},
		{three, is(3), is(1)},
		{three, is(3, 7, 20), is(1, 2, 3)},
		{three, is(20, 3, 7), is(3, 1, 2)},
		{three, is(7, 7), is(2, 2)},
		{three, is(0, 1, 2, 4, 6, 8, 19, 21, greatest), nil},
		{three, is(1, 3, 4, 20, 21), is(1, 3)},
		{known(), is(0, 1), nil},
		{readOnly(known(greatest)), is(greatest, 1), is(1)},
		{known(even(api.MaxMails)...), is(8192, 8191, 2), is(4096, 1)},
	} {
		if got, errno := sess.Places(c.s, c.uids); !slices.Equal(got, c.want) || errno != api.OK {
			t.Errorf("Places of %d of %.40v: %d, %d", c.uids, fmt.Sprint(c.s.Known), got, errno)
		}
	}
}

// 31.2
func TestMark(t *testing.T) {
	b := flagged(holding(3, 7, 20, 21), api.FlagSeen, api.FlagAll, 0, api.FlagDraft)
	s := marked(readOnly(known(1, 3, 7, 20)), api.FlagFlagged, 0, 0, api.FlagDeleted)
	for _, c := range []struct {
		uids  []uint32
		marks []api.Flag
	}{
		{nil, s.Marks},
		{is(3), []api.Flag{api.FlagFlagged, api.FlagSeen, 0, api.FlagDeleted}},
		{is(7, 7), []api.Flag{api.FlagFlagged, 0, api.FlagAll, api.FlagDeleted}},
		{is(20), []api.Flag{api.FlagFlagged, 0, 0, 0}},
		{is(20, 3), []api.Flag{api.FlagFlagged, api.FlagSeen, 0, 0}},
		{is(1), s.Marks},  // known, and not in the box
		{is(21), s.Marks}, // in the box, and not known
		{is(0, 2, 4, 6, 19, 22, greatest), s.Marks}, // neither
		{is(0, 1, 3, 7, 20, 21, 22), []api.Flag{api.FlagFlagged, api.FlagSeen, api.FlagAll, 0}},
	} {
		want := s
		want.Marks = c.marks
		if got, errno := sess.Mark(s, b, c.uids...); !same(got, want) || errno != api.OK {
			t.Errorf("Mark of %d: %v, %d", c.uids, got, errno)
		}
	}
	if got, errno := sess.Mark(known(), b, 3); !same(got, known()) || errno != api.OK {
		t.Errorf("Mark of nothing known: %v, %d", got, errno)
	}
}

// where tells at which byte of memory a list begins, and behind which one it ends; of a list that has room behind its end that, too.
func where[T any](l []T) (uintptr, uintptr) {
	if cap(l) == 0 {
		return 0, 0
	}
	from := uintptr(unsafe.Pointer(unsafe.SliceData(l)))
	return from, from + uintptr(cap(l))*unsafe.Sizeof(l[:1][0])
}

// apart sees that two sessions share no list.
func apart(t *testing.T, what string, a, b api.Session) {
	t.Helper()
	from, to := where(a.Known)
	other, end := where(b.Known)
	if from < end && other < to {
		t.Errorf("%s: the numbers are shared", what)
	}
	from, to = where(a.Marks)
	other, end = where(b.Marks)
	if from < end && other < to {
		t.Errorf("%s: the marks are shared", what)
	}
}

// copied tells the same session in other memory, with room behind its lists.
func copied(s api.Session) api.Session {
	s.Known, s.Marks = append(make([]uint32, 0, len(s.Known)+9), s.Known...), append(make([]api.Flag, 0, len(s.Marks)+9), s.Marks...)
	return s
}

// copiedBox tells the same box in other memory.
func copiedBox(b api.Box) api.Box {
	b.Messages = slices.Clone(b.Messages)
	return b
}

// 31.3
func TestNewMemory(t *testing.T) {
	for what, c := range rows() {
		for _, b := range []api.Box{c.b, {}} {
			s, was := copied(c.s), copied(c.s)
			room := slices.Clone(s.Known[:cap(s.Known)])
			mails := copiedBox(b)
			one, _, _ := sess.News(s, b, c.expunge, c.uid)
			two, _, _ := sess.News(s, b, c.expunge, c.uid)
			three, _, _ := sess.Select(s, b, true)
			four, _ := sess.Mark(s, b, s.Known...)
			five, _ := sess.Mark(s, b)
			l := []api.Session{s, one, two, three, four, five}
			for i := range l {
				for j := range i {
					apart(t, fmt.Sprint(what, ", ", j, " and ", i), l[i], l[j])
				}
			}
			if !same(s, was) || !slices.Equal(s.Known[:cap(s.Known)], room) || !reflect.DeepEqual(b, mails) {
				t.Errorf("%s: what is handed in is changed", what)
			}
		}
	}
	full := copied(known(upTo(api.MaxMails)...))
	got, _, _ := sess.News(full, holding(api.MaxMails+1), false, false)
	apart(t, "too many", full, got)
	none := copied(api.Session{Phase: api.SessGone}) // that has room alone
	got, _, _ = sess.Select(none, holding(), false)
	apart(t, "not now", none, got)
}

// 31.3
func TestListsAreNewMemory(t *testing.T) {
	s := known(3, 7, 20)
	set := span(3, 0, 1, 2)
	uids := is(3, 7, 20)
	for what, call := range map[string]func() []uint32{
		"by places":  func() []uint32 { l, _ := sess.Uids(s, span(1, 0), false); return l },
		"by numbers": func() []uint32 { l, _ := sess.Uids(s, set, true); return l },
		"places":     func() []uint32 { l, _ := sess.Places(s, uids); return l },
	} {
		one, two := call(), call()
		if len(one) != 3 {
			t.Errorf("%s: %d", what, one)
		}
		for _, other := range [][]uint32{two, s.Known, uids} {
			from, to := where(one)
			begin, end := where(other)
			if from < end && begin < to {
				t.Errorf("%s: memory is shared", what)
			}
		}
	}
	if !slices.Equal(s.Known, is(3, 7, 20)) || !slices.Equal(uids, is(3, 7, 20)) || !slices.Equal(set, span(3, 0, 1, 2)) {
		t.Errorf("what is handed in is changed: %v, %d, %v", s, uids, set)
	}
}

// flagWords tells flags' words, apart from the program.
func flagWords(f api.Flag, recent bool) string {
	var l []string
	for i, word := range []string{"Seen", "Answered", "Flagged", "Deleted", "Draft", "Recent"} {
		if i < 5 && f>>i&1 == 1 || i == 5 && recent {
			l = append(l, `\`+word)
		}
	}
	return strings.Join(l, " ")
}

// newsOf is News, by the words of the chapter, one mail at a time.
func newsOf(s api.Session, b api.Box, expunge, uid bool) (api.Session, string) {
	mails, recents := map[uint32]api.Message{}, 0
	for _, m := range b.Messages {
		mails[m.Uid] = m
		if m.Uid > b.Mark {
			recents++
		}
	}
	out := api.Session{Phase: s.Phase, ReadOnly: s.ReadOnly}
	first, then := "", ""
	for i, n := range s.Known {
		m, there := mails[n]
		if !there && expunge {
			first += fmt.Sprintf("* %d EXPUNGE\r\n", len(out.Known)+1)
			continue
		}
		mark := s.Marks[i]
		out.Known = append(out.Known, n)
		if there && m.Flags != mark {
			number := ""
			if uid {
				number = fmt.Sprintf(" UID %d", n)
			}
			then += fmt.Sprintf("* %d FETCH (FLAGS (%s)%s)\r\n", len(out.Known), flagWords(m.Flags, n > b.Mark), number)
			mark = m.Flags
		}
		out.Marks = append(out.Marks, mark)
	}
	most := uint32(0)
	for _, n := range out.Known {
		most = max(most, n)
	}
	many := len(out.Known)
	for _, m := range b.Messages {
		if m.Uid > most {
			out.Known, out.Marks = append(out.Known, m.Uid), append(out.Marks, m.Flags)
		}
	}
	if len(out.Known) > many {
		then += fmt.Sprintf("* %d EXISTS\r\n* %d RECENT\r\n", len(out.Known), recents)
	}
	return out, first + then
}

// randomBox tells any box of few mails.
func randomBox(r *rand.Rand) api.Box {
	var uids []uint32
	for n := range uint32(1 + r.Intn(12)) {
		if r.Intn(3) > 0 {
			uids = append(uids, n+1)
		}
	}
	b := holding(uids...)
	for i := range b.Messages {
		b.Messages[i].Flags = api.Flag(r.Intn(3))
	}
	return recent(b, uint32(r.Intn(int(b.Last)+1)))
}

// randomSession tells any session that has selected.
func randomSession(r *rand.Rand) api.Session {
	b := randomBox(r)
	s := api.Session{Phase: api.SessSelected, ReadOnly: r.Intn(2) == 0}
	for _, m := range b.Messages {
		s.Known, s.Marks = append(s.Known, m.Uid), append(s.Marks, m.Flags)
	}
	return s
}

// 31.1, P3: of any session and any box
func TestManyNews(t *testing.T) {
	r := rand.New(rand.NewSource(31))
	for range 30000 {
		s, b, expunge, uid := randomSession(r), randomBox(r), r.Intn(2) == 0, r.Intn(2) == 0
		want, text := newsOf(s, b, expunge, uid)
		got, told, errno := sess.News(s, b, expunge, uid)
		if !same(got, want) || told != text || errno != api.OK {
			t.Fatalf("News of %v of %v: %v, %q, %d, not %v, %q", s, b, got, told, errno, want, text)
		}
		if sess.Check(got) != api.OK {
			t.Fatalf("News of %v of %v: %v is not right", s, b, got)
		}
	}
}

// changed does any change to a box.
func changed(r *rand.Rand, b api.Box) api.Box {
	uids, _ := box.Uids(b)
	some := slices.DeleteFunc(uids, func(uint32) bool { return r.Intn(2) == 0 })
	l := []api.Change{
		{Kind: api.ChangeAppend, Flags: api.Flag(r.Intn(32)), Raw: "x"},
		{Kind: api.ChangeAdd, Uids: some, Flags: api.Flag(r.Intn(32))},
		{Kind: api.ChangeSet, Uids: some, Flags: api.Flag(r.Intn(32))},
		{Kind: api.ChangeRemove, Uids: some, Flags: api.Flag(r.Intn(32))},
		{Kind: api.ChangeExpunge, Uids: some},
		{Kind: api.ChangeSelect},
	}
	b, _, errno := box.Do(b, l[r.Intn(len(l))])
	if errno != api.OK {
		panic(errno)
	}
	return b
}

// 31.4, 31.5: of a box that changes as boxes do
func TestToldAndSteady(t *testing.T) {
	r := rand.New(rand.NewSource(45))
	for range 400 {
		b, _ := box.Make(9)
		s, _, errno := sess.Select(api.Session{Phase: api.SessIn}, b, false)
		if errno != api.OK {
			t.Fatalf("Select: %d", errno)
		}
		for range 40 {
			for range r.Intn(4) {
				b = changed(r, b)
			}
			uid := r.Intn(2) == 0
			steady, _, errno := sess.News(s, b, false, uid)
			if errno != api.OK || len(steady.Known) < len(s.Known) || !slices.Equal(steady.Known[:len(s.Known)], s.Known) {
				t.Fatalf("without expunges: %v of %v, %d", steady, s, errno)
			}
			if again, text, _ := sess.News(steady, b, false, uid); !same(again, steady) || text != "" {
				t.Fatalf("without expunges, again: %v, %q", again, text)
			}
			if r.Intn(2) == 0 {
				s = steady
				continue
			}
			if s, _, errno = sess.News(s, b, true, uid); errno != api.OK {
				t.Fatalf("with expunges: %d", errno)
			}
			all, _, _ := sess.Select(s, b, false)
			if !same(s, all) {
				t.Fatalf("with expunges: %v, and the box's %v", s, all)
			}
			if again, text, _ := sess.News(s, b, true, uid); !same(again, s) || text != "" {
				t.Fatalf("with expunges, again: %v, %q", again, text)
			}
		}
	}
}

// 31.2: of any set, by the words of the chapter
func TestManySets(t *testing.T) {
	r := rand.New(rand.NewSource(2))
	none := 0
	for range 30000 {
		s := randomSession(r)
		set := make([]api.Span, 1+r.Intn(3))
		for i := range set {
			set[i] = api.Span{From: uint32(r.Intn(9)), To: uint32(r.Intn(9))}
		}
		for _, uid := range []bool{false, true} {
			want, errno := uidsOf(s, set, uid)
			if errno == api.ErrNone {
				none++
			}
			if got, told := sess.Uids(s, set, uid); !slices.Equal(got, want) || told != errno {
				t.Fatalf("Uids of %v of %v, by numbers %v: %d, %d, not %d, %d", set, s.Known, uid, got, told, want, errno)
			}
		}
	}
	if none < 1000 || none > 29000 {
		t.Errorf("%d of the sets had places that there are not", none)
	}
}

// uidsOf holds each number against each span.
func uidsOf(s api.Session, set []api.Span, uid bool) ([]uint32, api.Errno) {
	most := uint32(len(s.Known))
	if uid && most > 0 {
		most = s.Known[most-1]
	}
	var l []uint32
	for i, n := range s.Known {
		in := false
		for _, x := range set {
			from, to, at := x.From, x.To, n
			if from == 0 {
				from = most
			}
			if to == 0 {
				to = most
			}
			if !uid {
				at = uint32(i + 1)
			}
			in = in || min(from, to) <= at && at <= max(from, to)
		}
		if in {
			l = append(l, n)
		}
	}
	for _, x := range set {
		for _, end := range []uint32{x.From, x.To} {
			if !uid && (end > most || most == 0) {
				return nil, api.ErrNone
			}
		}
	}
	return l, api.OK
}

// P1, P3, P4: any sessions and boxes are answered, alike each time, and nothing runs on
func TestAnythingIsAnswered(t *testing.T) {
	ahead := runtime.NumGoroutine()
	r := rand.New(rand.NewSource(1))
	ended := map[api.Errno]int{}
	for range 20000 {
		s, b := randomSession(r), randomBox(r)
		switch r.Intn(8) {
		case 0:
			s.Phase = api.SessPhase(r.Intn(6))
		case 1:
			s.Marks = append(s.Marks, 0)
		case 2:
			s.Known = append(s.Known, uint32(r.Intn(20)))
			s.Marks = append(s.Marks, api.Flag(r.Intn(40)))
		case 3:
			b.Last = uint32(r.Intn(20))
		case 4:
			b.Messages = append(b.Messages, api.Message{Uid: uint32(r.Intn(20)), Inner: api.Time{Day: math.MinInt}})
		case 5:
			s = api.Session{Phase: api.SessPhase(r.Intn(5))}
		}
		one, told, errno := sess.News(s, b, true, false)
		two, again, _ := sess.News(s, b, true, false)
		if !same(one, two) || told != again || errno == api.OK && sess.Check(one) != api.OK {
			t.Fatalf("News of %v: %v and %v", s, one, two)
		}
		ended[errno]++
		if one, _, errno = sess.Select(s, b, true); errno == api.OK && sess.Check(one) != api.OK {
			t.Fatalf("Select of %v: %v", s, one)
		}
		if one, errno = sess.Mark(s, b, 0, 1, 2, 3, greatest); errno == api.OK && sess.Check(one) != api.OK {
			t.Fatalf("Mark of %v: %v", s, one)
		}
		sess.Uids(s, span(0, greatest), r.Intn(2) == 0)
		sess.Places(s, is(0, 1, greatest))
	}
	if ended[api.OK] < 1000 || ended[api.ErrForm] < 1000 || ended[api.ErrState] < 100 {
		t.Errorf("they ended so: %v", ended)
	}
	if behind := runtime.NumGoroutine(); behind > ahead { // fewer, if that of an earlier test was just ending
		t.Errorf("%d goroutines ahead, %d behind", ahead, behind)
	}
}
