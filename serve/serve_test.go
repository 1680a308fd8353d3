package serve_test

import (
	"fmt"
	"math/rand"
	"reflect"
	"runtime"
	"slices"
	"strings"
	"testing"
	"unsafe"

	"missive/api"
	"missive/box"
	"missive/cmd"
	"missive/disk"
	"missive/index"
	"missive/log"
	"missive/manif"
	"missive/nset"
	"missive/sat"
	"missive/say"
	"missive/serve"
	"missive/sess"
	"missive/store"
)

// The signatures that the chapter lists.
var (
	_ func(api.Server) api.Errno                                     = serve.Check
	_ func(int, uint32, string, string, int) (api.Server, api.Errno) = serve.Make
	_ func(api.Server) (api.Server, int, string, api.Errno)          = serve.Connect
	_ func(api.Server, int, string) (api.Server, string, api.Errno)  = serve.Do
	_ func(api.Server, int) (api.Server, int, api.Errno)             = serve.Step
)

// The lines that SELECT tells of any box.
const flags = `* FLAGS (\Seen \Answered \Flagged \Deleted \Draft)|`

// made tells a server of the box 7, of the user u with the pass p, to which many have come.
func made(t testing.TB, many int) api.Server {
	t.Helper()
	s, errno := serve.Make(api.MaxRoom, 7, "u", "p", 2)
	for range many {
		if errno == api.OK {
			s, _, _, errno = serve.Connect(s)
		}
	}
	if errno != api.OK {
		t.Fatalf("a server: %d", errno)
	}
	return s
}

// putting tells s with mails put into its box.
func putting(t testing.TB, s api.Server, raw ...string) api.Server {
	t.Helper()
	for _, x := range raw {
		s.Disk = changed(t, s.Disk, api.Change{Kind: api.ChangeAppend, Raw: x})
	}
	return s
}

// changed tells a disk behind a change of its box.
func changed(t testing.TB, d api.Fs, l ...api.Change) api.Fs {
	t.Helper()
	for _, c := range l {
		next, _, errno := store.Do(d, c)
		if errno != api.OK {
			t.Fatalf("a change: %d", errno)
		}
		d = next
	}
	return d
}

// marking tells s with flags of a mail set.
func marking(t testing.TB, s api.Server, uid uint32, f api.Flag) api.Server {
	t.Helper()
	s.Disk = changed(t, s.Disk, api.Change{Kind: api.ChangeSet, Uids: []uint32{uid}, Flags: f})
	return s
}

// going tells s without some mails, that nobody was told of.
func going(t testing.TB, s api.Server, uids ...uint32) api.Server {
	t.Helper()
	s.Disk = changed(t, s.Disk,
		api.Change{Kind: api.ChangeAdd, Uids: uids, Flags: api.FlagDeleted}, api.Change{Kind: api.ChangeExpunge, Uids: uids})
	return s
}

// in tells a server to which two have come, who have logged in.
func in(t testing.TB) api.Server {
	t.Helper()
	return play(t, made(t, 2), said{0, "a LOGIN u p", "a OK done"}, said{1, "a LOGIN u p", "a OK done"})
}

// selected tells a server with mails, none of which is recent, and that both clients have selected.
func selected(t testing.TB, raw ...string) api.Server {
	t.Helper()
	s := putting(t, in(t), raw...)
	for _, who := range []int{0, 1, 0, 1} {
		s, _ = do(t, s, who, "a SELECT INBOX")
	}
	return s
}

// reading tells a server likewise, whose first client may only read.
func reading(t testing.TB, raw ...string) api.Server {
	t.Helper()
	s, _ := do(t, selected(t, raw...), 0, "a EXAMINE INBOX")
	return s
}

// said is what a client sends, and what it is to be told: with | in the place of a line's end, and none at the end.
type said struct {
	who        int
	text, want string
}

// lines tells what is told with the lines' own ends.
func lines(want string) string {
	return strings.ReplaceAll(want, "|", "\r\n") + "\r\n"
}

// do has a command answered that nothing may go wrong with.
func do(t testing.TB, s api.Server, who int, text string) (api.Server, string) {
	t.Helper()
	next, told, errno := serve.Do(s, who, text)
	if errno != api.OK {
		t.Fatalf("%.80q of %d: %d", text, who, errno)
	}
	if errno = serve.Check(next); errno != api.OK {
		t.Fatalf("%.80q of %d: the server is not right any more", text, who)
	}
	return next, told
}

// play has commands answered one behind the other.
func play(t testing.TB, s api.Server, l ...said) api.Server {
	t.Helper()
	for _, x := range l {
		var told string
		if s, told = do(t, s, x.who, x.text); told != lines(x.want) {
			t.Errorf("%.80q of %d: %.300q, not %.300q", x.text, x.who, told, lines(x.want))
		}
	}
	return s
}

// boxOf tells a server's box.
func boxOf(t testing.TB, s api.Server) api.Box {
	t.Helper()
	b, errno := store.Load(s.Disk)
	if errno != api.OK {
		t.Fatalf("the box: %d", errno)
	}
	return b
}

// has sees which mails a box has, with which flags.
func has(t testing.TB, what string, s api.Server, want map[uint32]api.Flag) {
	t.Helper()
	got := map[uint32]api.Flag{}
	for _, m := range boxOf(t, s).Messages {
		got[m.Uid] = m.Flags
	}
	if !reflect.DeepEqual(got, want) {
		t.Errorf("%s: the box has %v, not %v", what, got, want)
	}
}

// sameFs takes nil and empty lists as alike.
func sameFs(a, b api.Fs) bool {
	files := slices.Equal(a.Files, b.Files)
	a.Files, b.Files = nil, nil
	return files && reflect.DeepEqual(a, b)
}

// sameSess is sameFs of sessions.
func sameSess(a, b api.Session) bool {
	return a.Phase == b.Phase && a.ReadOnly == b.ReadOnly && slices.Equal(a.Known, b.Known) && slices.Equal(a.Marks, b.Marks)
}

// same is sameFs of servers.
func same(a, b api.Server) bool {
	return sameFs(a.Disk, b.Disk) && a.User == b.User && a.Pass == b.Pass && a.Fan == b.Fan && slices.EqualFunc(a.Sessions, b.Sessions, sameSess)
}

// wrongServers are servers that are not right, each in one way.
func wrongServers(t testing.TB) map[string]api.Server {
	change := func(how func(*api.Server)) api.Server {
		s := selected(t, "x", "y")
		how(&s)
		return s
	}
	return map[string]api.Server{
		"a zero one":            {},
		"no fan":                change(func(s *api.Server) { s.Fan = 0 }),
		"too small a fan":       change(func(s *api.Server) { s.Fan = api.MinFan - 1 }),
		"too great a fan":       change(func(s *api.Server) { s.Fan = api.MaxFan + 1 }),
		"a fan below 0":         change(func(s *api.Server) { s.Fan = -2 }),
		"a disk without room":   change(func(s *api.Server) { s.Disk.Room = 1 }),
		"too much room":         change(func(s *api.Server) { s.Disk.Room = api.MaxRoom + 1 }),
		"a fuse below -1":       change(func(s *api.Server) { s.Disk.Fuse = -2 }),
		"wrong, and down":       change(func(s *api.Server) { s.Disk.Fuse, s.Disk.Down = -2, true }),
		"names that fall":       change(func(s *api.Server) { s.Disk.Files = append(s.Disk.Files, api.File{Name: "a"}) }),
		"one session too many":  change(func(s *api.Server) { s.Sessions = make([]api.Session, api.MaxSessions+1) }),
		"a phase there is not":  change(func(s *api.Server) { s.Sessions[1] = api.Session{Phase: api.SessCount} }),
		"a first phase like it": change(func(s *api.Server) { s.Sessions[0].Phase = 9 }),
		"numbers that fall":     change(func(s *api.Server) { s.Sessions[1].Known[0] = 3 }),
		"fewer marks":           change(func(s *api.Server) { s.Sessions[0].Marks = nil }),
		"no flag":               change(func(s *api.Server) { s.Sessions[0].Marks[1] = api.FlagAll + 1 }),
		"mails of nobody in":    change(func(s *api.Server) { s.Sessions[1].Phase = api.SessIn }),
		"the last one of all": change(func(s *api.Server) {
			s.Sessions = append(make([]api.Session, api.MaxSessions-1), api.Session{ReadOnly: true})
		}),
	}
}

// 32.1
func TestCheck(t *testing.T) {
	for what, s := range wrongServers(t) {
		if errno := serve.Check(s); errno != api.ErrForm {
			t.Errorf("Check of %s: %d", what, errno)
		}
	}
	s := selected(t, "x", "y")
	most := s
	most.Sessions = append(slices.Clone(s.Sessions), make([]api.Session, api.MaxSessions-2)...)
	down := s
	down.Disk.Down = true
	for what, s := range map[string]api.Server{
		"one that is selected":   s,
		"MaxSessions":            most,
		"one that is down":       down,
		"no files, no names":     {Fan: api.MinFan},
		"the greatest fan":       {Fan: api.MaxFan, Disk: api.Fs{Fuse: -1, Fault: -1, Room: api.MaxRoom}},
		"a fan between":          {Fan: 9, User: "\x00", Pass: strings.Repeat("x", 1<<17)},
		"a box that is none":     {Fan: 2, Disk: api.Fs{Room: 9, Files: []api.File{{Name: "box", Data: "x"}}}},
		"one that has ended":     {Fan: 2, Sessions: []api.Session{{Phase: api.SessGone}}},
		"mails that are nowhere": {Fan: 2, Sessions: []api.Session{{Phase: api.SessSelected, Known: []uint32{5}, Marks: []api.Flag{0}}}},
	} {
		if errno := serve.Check(s); errno != api.OK {
			t.Errorf("Check of %s: %d", what, errno)
		}
	}
}

// 32.1, P2, P3
func TestMake(t *testing.T) {
	begun, _ := log.Begin(9)
	room := len(begun)
	for _, c := range []struct {
		room     int
		validity uint32
		fan      int
		errno    api.Errno
	}{
		{api.MaxRoom, 9, api.MinFan, api.OK},
		{api.MaxRoom, 9, api.MaxFan, api.OK},
		{room, 9, 5, api.OK},
		{room - 1, 9, 5, api.ErrFull},
		{0, 9, 5, api.ErrFull},
		{api.MaxRoom + 1, 9, 5, api.ErrRange},
		{-1, 9, 5, api.ErrRange},
		{-1, 0, 0, api.ErrRange},
		{900, 9, api.MinFan - 1, api.ErrRange},
		{900, 9, api.MaxFan + 1, api.ErrRange},
		{900, 9, -2, api.ErrRange},
		{0, 9, 1, api.ErrRange}, // the fan is ahead of the room
		{900, 0, 5, api.ErrRange},
		{0, 0, 5, api.ErrRange},
	} {
		var want api.Server
		if c.errno == api.OK {
			d, _ := disk.Make(c.room)
			d, _ = store.Make(d, c.validity)
			want = api.Server{Disk: d, User: "me", Pass: "it is", Fan: c.fan}
		}
		got, errno := serve.Make(c.room, c.validity, "me", "it is", c.fan)
		if !same(got, want) || errno != c.errno {
			t.Errorf("Make of %v: %v, %d, not %v, %d", c, got, errno, want, c.errno)
		}
	}
	if s, errno := serve.Make(900, 9, "", "", 2); s.User != "" || s.Pass != "" || errno != api.OK {
		t.Errorf("Make of no name: %v, %d", s, errno)
	}
}

// 32.1
func TestConnect(t *testing.T) {
	s := made(t, 0)
	for place := range api.MaxSessions {
		was := s
		next, who, text, errno := serve.Connect(s)
		if who != place || text != "* OK ready\r\n" || errno != api.OK {
			t.Fatalf("Connect: %d, %q, %d, not %d", who, text, errno, place)
		}
		if len(next.Sessions) != place+1 || !sameSess(next.Sessions[place], api.Session{}) {
			t.Fatalf("Connect: %v", next.Sessions)
		}
		next.Sessions[place].Phase = api.SessPhase(place % int(api.SessCount)) // those that are there already stay as they are
		s = next
		next.Sessions = next.Sessions[:place]
		if !same(next, was) {
			t.Fatalf("Connect changes what is there: %v", next)
		}
	}
	got, who, text, errno := serve.Connect(s)
	if !same(got, s) || who != 0 || text != "" || errno != api.ErrFull {
		t.Errorf("one more than MaxSessions: %v, %d, %q, %d", got, who, text, errno)
	}
	s.Disk.Down = true
	if got, _, _, errno = serve.Connect(s); !same(got, s) || errno != api.ErrFull {
		t.Errorf("one more, without power: %v, %d", got, errno)
	}
	s.Sessions = s.Sessions[:3]
	if got, who, text, errno = serve.Connect(s); len(got.Sessions) != 4 || who != 3 || text == "" || errno != api.OK {
		t.Errorf("without power: %v, %d, %q, %d", got, who, text, errno)
	}
}

// 32.1, 32.2, P2, P3: what is not right is told ahead of all else
func TestServersThatAreNotRight(t *testing.T) {
	for what, s := range wrongServers(t) {
		if got, who, text, errno := serve.Connect(s); !same(got, api.Server{}) || who != 0 || text != "" || errno != api.ErrForm {
			t.Errorf("Connect of %s: %v, %d, %q, %d, not ErrForm alone", what, got, who, text, errno)
		}
		for _, who := range []int{-1, 0, 1, 99} {
			if got, text, errno := serve.Do(s, who, "a NOOP"); !same(got, api.Server{}) || text != "" || errno != api.ErrForm {
				t.Errorf("Do of %s: %v, %q, %d, not ErrForm alone", what, got, text, errno)
			}
		}
		for _, step := range []int{-1, 0, 1, 2, 3} {
			if got, n, errno := serve.Step(s, step); !same(got, api.Server{}) || n != 0 || errno != api.ErrForm {
				t.Errorf("Step of %s: %v, %d, %d, not ErrForm alone", what, got, n, errno)
			}
		}
	}
}

// 32.2, P2, P3
func TestSessionsThatThereAreNot(t *testing.T) {
	for _, down := range []bool{false, true} { // who is asked ahead of the power
		s := selected(t, "x")
		s.Disk.Down = down
		for _, who := range []int{-1, 2, 3, -1 << 63, 1<<63 - 1} {
			if got, text, errno := serve.Do(s, who, "a NOOP"); !same(got, api.Server{}) || text != "" || errno != api.ErrRange {
				t.Errorf("Do of %d: %v, %q, %d, not ErrRange alone", who, got, text, errno)
			}
		}
	}
	none := made(t, 0)
	if got, text, errno := serve.Do(none, 0, "a NOOP"); !same(got, api.Server{}) || text != "" || errno != api.ErrRange {
		t.Errorf("Do of nobody: %v, %q, %d, not ErrRange alone", got, text, errno)
	}
}

// 32.2
func TestNoPower(t *testing.T) {
	s := selected(t, "x")
	s.Disk.Down = true
	for _, text := range []string{"a NOOP", "a LOGOUT", "!! (", "", "a APPEND INBOX {1}\r\nx", "a STORE 1 FLAGS ()"} {
		if got, told, errno := serve.Do(s, 1, text); !same(got, s) || told != "" || errno != api.ErrPower {
			t.Errorf("%q: %v, %q, %d, not ErrPower and the server as it was", text, got, told, errno)
		}
	}
	for _, what := range []int{-1, 0, 1, 2, 3} {
		if got, n, errno := serve.Step(s, what); !same(got, s) || n != 0 || errno != api.ErrPower {
			t.Errorf("the step %d: %v, %d, %d, not ErrPower and the server as it was", what, got, n, errno)
		}
	}
}

// phases tells a server with one client in each phase.
func phases(t testing.TB) api.Server {
	s := putting(t, made(t, 4), "x", "y")
	for who := 1; who < 4; who++ {
		s, _ = do(t, s, who, "a LOGIN u p")
	}
	s, _ = do(t, s, 2, "a SELECT INBOX")
	s, _ = do(t, s, 2, "a SELECT INBOX")
	return play(t, s, said{3, "a LOGOUT", "* BYE so long|a OK done"})
}

// 32.2: each command in each phase; what is refused changes nothing
func TestEachCommandInEachPhase(t *testing.T) {
	s := phases(t)
	for text, allowed := range map[string]string{
		"CAPABILITY": "OIS", "NOOP": "OIS", "LOGOUT": "OIS", "LOGIN u p": "O",
		"SELECT INBOX": "IS", "EXAMINE INBOX": "IS", "APPEND INBOX {1}\r\nx": "IS", "SELECT x": "IS", "APPEND x {1}\r\nx": "IS",
		"CHECK": "S", "CLOSE": "S", "EXPUNGE": "S", "UID EXPUNGE 1": "S", "STORE 1 FLAGS ()": "S", "UID STORE 1 FLAGS ()": "S",
		"FETCH 1 UID": "S", "UID FETCH 1 UID": "S", "SEARCH ALL": "S", "UID SEARCH ALL": "S", "STORE 9 FLAGS ()": "S",
		"LOGIN u x": "O",
	} {
		for who, phase := range "OISG" {
			next, told := do(t, s, who, "t "+text)
			is := strings.ContainsRune(allowed, phase)
			if is == (told == "t BAD not now\r\n") {
				t.Errorf("%s in the phase %c: %q", text, phase, told)
			}
			if !is && !same(next, s) {
				t.Errorf("%s in the phase %c: it is refused, and changes something", text, phase)
			}
		}
	}
}

// 32.2, P7: what is no command is refused in each phase, and changes nothing
func TestNotUnderstood(t *testing.T) {
	s := phases(t)
	long := strings.Repeat("x", 40)
	const charsets = " NO [BADCHARSET (US-ASCII UTF-8 ISO-8859-1 ISO-8859-15 WINDOWS-1252)] no such charset"
	for text, want := range map[string]string{
		"":                            "* BAD not understood",
		" ":                           "* BAD not understood",
		"a":                           "a BAD not understood",
		"a ":                          "a BAD not understood",
		"a NOPE":                      "a BAD not understood",
		"a NOOP NOOP":                 "a BAD not understood",
		"a+ NOOP":                     "* BAD not understood",
		"( NOOP":                      "* BAD not understood",
		"a \"":                        "a BAD not understood",
		"a\x00 NOOP":                  "a BAD not understood",
		"a NOOP\r\n":                  "a BAD not understood",
		long + " NOOP":                "* BAD not understood",
		"a LOGIN u":                   "a BAD not understood",
		"a SELECT":                    "a BAD not understood",
		"a FETCH 0 UID":               "a BAD not understood",
		"a STORE 1 FLAGS (x)":         "a BAD not understood",
		"a SEARCH":                    "a BAD not understood",
		"a SEARCH NOPE":               "a BAD not understood",
		"a SEARCH CHARSET x":          "a" + charsets,
		"a SEARCH CHARSET koi8-r ALL": "a" + charsets,
		"a UID SEARCH CHARSET x NOPE": "a" + charsets,
		"a SEARCH " + strings.Repeat("NOT ", 64) + "ALL": "a BAD not understood",
		"a SEARCH" + strings.Repeat(" ALL", 1024):        "a BAD not understood",
		"a NOOP" + strings.Repeat(" x", 5000):            "a BAD not understood",
	} {
		for who := range 4 {
			if next := play(t, s, said{who, text, want}); !same(next, s) {
				t.Errorf("%.80q of %d: it is refused, and changes something", text, who)
			}
		}
	}
}

// 32.2
func TestPlainCommands(t *testing.T) {
	s := play(t, made(t, 1),
		said{0, "a1 CAPABILITY", "* CAPABILITY IMAP4rev1 ESEARCH LITERAL+|a1 OK done"},
		said{0, "B noop", "B OK done"},
		said{0, "c LOGIN u p", "c OK done"},
		said{0, "d capability", "* CAPABILITY IMAP4rev1 ESEARCH LITERAL+|d OK done"},
		said{0, "e Noop", "e OK done"},
		said{0, "f EXAMINE INBOX", flags + "* 0 EXISTS|* 0 RECENT|* OK [UIDVALIDITY 7]|* OK [UIDNEXT 1]|f OK [READ-ONLY] done"},
		said{0, "g CHECK", "g OK done"},
		said{0, "h CAPABILITY", "* CAPABILITY IMAP4rev1 ESEARCH LITERAL+|h OK done"},
		said{0, "i LOGOUT", "* BYE so long|i OK done"},
	)
	if !sameSess(s.Sessions[0], api.Session{Phase: api.SessGone}) {
		t.Errorf("behind LOGOUT: %v", s.Sessions[0])
	}
	s = play(t, selected(t, "x"), said{1, "a LOGOUT", "* BYE so long|a OK done"}, said{1, "b NOOP", "b BAD not now"}, said{0, "c CHECK", "c OK done"})
	if !sameSess(s.Sessions[1], api.Session{Phase: api.SessGone}) || s.Sessions[0].Phase != api.SessSelected {
		t.Errorf("behind LOGOUT of a selected box: %v", s.Sessions)
	}
	play(t, made(t, 1), said{0, "a LOGOUT", "* BYE so long|a OK done"})
}

// 32.2
func TestLogin(t *testing.T) {
	for _, c := range []struct {
		user, pass, text string
		is               bool
	}{
		{"u", "p", "u p", true},
		{"u", "p", `"u" "p"`, true},
		{"u", "p", "{1}\r\nu {1+}\r\np", true},
		{"u", "p", "U p", false},
		{"u", "p", "u P", false},
		{"u", "p", "p u", false},
		{"u", "p", "u x", false},
		{"u", "p", "x p", false},
		{"u", "p", "uu p", false},
		{"u", "p", "u pp", false},
		{"u", "p", `"" ""`, false},
		{"u", "p", `u ""`, false},
		{"", "", `"" ""`, true},
		{"", "", `"" x`, false},
		{"", "p", `"" p`, true},
		{"a b", "\xff\x00", "\"a b\" {2}\r\n\xff\x00", true},
		{"a b", "\xff\x00", "\"a b\" {2}\r\n\xfe\x00", false},
		{"\xc3\x89", "x", "{2}\r\n\xc3\xa9 x", false}, // folded they would be alike
	} {
		s := made(t, 2)
		s.User, s.Pass = c.user, c.pass
		want, phase := "t NO who is that", api.SessOut
		if c.is {
			want, phase = "t OK done", api.SessIn
		}
		next := play(t, s, said{1, "t LOGIN " + c.text, want})
		if !sameSess(next.Sessions[1], api.Session{Phase: phase}) || !sameSess(next.Sessions[0], api.Session{}) {
			t.Errorf("%q of %q and %q: %v", c.text, c.user, c.pass, next.Sessions)
		}
	}
}

// 32.2
func TestSelectAndExamine(t *testing.T) {
	s := marking(t, putting(t, in(t), "x", "y", "z"), 2, api.FlagSeen)
	examined := play(t, s, said{0, "a EXAMINE inbox", flags + "* 3 EXISTS|* 3 RECENT|* OK [UIDVALIDITY 7]|* OK [UIDNEXT 4]|a OK [READ-ONLY] done"})
	if want := (api.Session{Phase: api.SessSelected, ReadOnly: true, Known: []uint32{1, 2, 3}, Marks: []api.Flag{0, api.FlagSeen, 0}}); !sameSess(examined.Sessions[0], want) {
		t.Errorf("examined: %v", examined.Sessions[0])
	}
	if !sameFs(examined.Disk, s.Disk) {
		t.Error("EXAMINE changes the disk")
	}
	got := play(t, examined,
		said{0, "b SELECT InBox", flags + "* 3 EXISTS|* 3 RECENT|* OK [UIDVALIDITY 7]|* OK [UIDNEXT 4]|b OK [READ-WRITE] done"},
		said{0, "c EXAMINE {5}\r\nINBOX", flags + "* 3 EXISTS|* 3 RECENT|* OK [UIDVALIDITY 7]|* OK [UIDNEXT 4]|c OK [READ-ONLY] done"},
		said{1, "d APPEND INBOX {1}\r\nw", "d OK [APPENDUID 7 4] done"},
		said{0, `e SELECT "inbox"`, flags + "* 4 EXISTS|* 1 RECENT|* OK [UIDVALIDITY 7]|* OK [UIDNEXT 5]|e OK [READ-WRITE] done"},
	)
	if want := (api.Session{Phase: api.SessSelected, Known: []uint32{1, 2, 3, 4}, Marks: []api.Flag{0, api.FlagSeen, 0, 0}}); !sameSess(got.Sessions[0], want) {
		t.Errorf("selected: %v", got.Sessions[0])
	}
}

// 32.2: what is recent to who selects the box is so to those that come behind just till it is selected again
func TestRecentIsOfWhoSelects(t *testing.T) {
	begun := putting(t, in(t), "x")
	b := boxOf(t, begun)
	if b.Mark != 0 || b.Last != 0 {
		t.Fatalf("the box: %v", b)
	}
	play(t, begun,
		said{0, "a SELECT INBOX", flags + "* 1 EXISTS|* 1 RECENT|* OK [UIDVALIDITY 7]|* OK [UIDNEXT 2]|a OK [READ-WRITE] done"},
		said{0, "b FETCH 1 FLAGS", `* 1 FETCH (FLAGS (\Recent))|b OK done`},
		said{0, "c SEARCH RECENT", "* SEARCH 1|c OK done"},
		said{1, "d APPEND INBOX {1}\r\ny", "d OK [APPENDUID 7 2] done"},
		said{0, "e NOOP", "* 2 EXISTS|* 2 RECENT|e OK done"},
		said{1, "f EXAMINE INBOX", flags + "* 2 EXISTS|* 2 RECENT|* OK [UIDVALIDITY 7]|* OK [UIDNEXT 3]|f OK [READ-ONLY] done"},
		said{1, "g SELECT INBOX", flags + "* 2 EXISTS|* 1 RECENT|* OK [UIDVALIDITY 7]|* OK [UIDNEXT 3]|g OK [READ-WRITE] done"},
		said{1, "h FETCH 1:2 FLAGS", `* 1 FETCH (FLAGS ())|* 2 FETCH (FLAGS (\Recent))|h OK done`},
		said{1, "i SEARCH NEW", "* SEARCH 2|i OK done"},
		said{0, "j FETCH 1:2 FLAGS", `* 1 FETCH (FLAGS ())|* 2 FETCH (FLAGS (\Recent))|j OK done`},
	)
}

// 32.2
func TestOtherBoxes(t *testing.T) {
	for _, text := range []string{"x", `""`, "INBO", "INBOXX", `"INBOX "`, `" INBOX"`, "INBOX/", "{6}\r\nINBOX\x00", "\"\xc9NBOX\"", "{5}\r\n\x69nb\xf8x"} {
		for _, word := range []string{"SELECT ", "EXAMINE "} {
			s := selected(t, "x", "y")
			got := play(t, s, said{0, "a " + word + text, "a NO no such box"})
			want := s
			want.Sessions = []api.Session{{Phase: api.SessIn}, s.Sessions[1]}
			if !same(got, want) {
				t.Errorf("%s%q of a selected box: %v", word, text, got)
			}
			again := play(t, got, said{0, "b " + word + text, "b NO no such box"}, said{0, "c FETCH 1 UID", "c BAD not now"})
			if !same(again, want) {
				t.Errorf("%s%q: %v", word, text, again)
			}
		}
		s := selected(t, "x")
		if got := play(t, s, said{0, "a APPEND " + text + " {1}\r\nx", "a NO [TRYCREATE] no such box"}); !same(got, s) {
			t.Errorf("APPEND to %q: %v", text, got)
		}
	}
}

// 32.2
func TestAppend(t *testing.T) {
	for _, c := range []struct {
		text string
		want api.Message
	}{
		{"INBOX {1}\r\nx", api.Message{Raw: "x"}},
		{"inbox \"A: b\"", api.Message{Raw: "A: b"}},
		{`iNbOx ""`, api.Message{}},
		{"INBOX () {2+}\r\n\r\n", api.Message{Raw: "\r\n"}},
		{`INBOX (\Seen \draft) {1}` + "\r\nx", api.Message{Flags: api.FlagSeen | api.FlagDraft, Raw: "x"}},
		{`INBOX (\Seen \Answered \Flagged \Deleted \Draft) "x"`, api.Message{Flags: api.FlagAll, Raw: "x"}},
		{`INBOX " 5-Feb-1996 01:02:03 +0130" "x"`, api.Message{Inner: api.Time{Day: 9531, Second: 3723, Zone: 90}, Raw: "x"}},
		{`INBOX (\Flagged) "05-Feb-1996 00:00:00 -0100" "x"`, api.Message{Flags: api.FlagFlagged, Inner: api.Time{Day: 9531, Zone: -60}, Raw: "x"}},
		{"INBOX {3}\r\n\x00\xff\n", api.Message{Raw: "\x00\xff\n"}},
		{fmt.Sprintf("INBOX {%d}\r\n", api.MaxMail) + strings.Repeat("y", api.MaxMail), api.Message{Raw: strings.Repeat("y", api.MaxMail)}},
	} {
		s := putting(t, in(t), "first")
		got := play(t, s, said{0, "t APPEND " + c.text, "t OK [APPENDUID 7 2] done"})
		c.want.Uid = 2
		if l := boxOf(t, got).Messages; len(l) != 2 || l[0].Raw != "first" || l[1] != c.want {
			t.Errorf("%.80q: the box has %.300q", c.text, fmt.Sprint(l))
		}
		got.Disk = s.Disk
		if !same(got, s) {
			t.Errorf("%.80q: more is changed than the disk", c.text)
		}
	}
	s := play(t, selected(t, "x"),
		said{0, "a APPEND INBOX (\\Seen) {1}\r\ny", "* 2 EXISTS|* 1 RECENT|a OK [APPENDUID 7 2] done"},
		said{1, "b STORE 1 +FLAGS.SILENT (\\Deleted)", "* 2 EXISTS|* 1 RECENT|b OK done"},
		said{1, "c EXPUNGE", "* 1 EXPUNGE|c OK done"},
		said{0, "d APPEND INBOX {1}\r\nz", "* 1 EXPUNGE|* 2 EXISTS|* 2 RECENT|d OK [APPENDUID 7 3] done"},
	)
	if got := s.Sessions[0]; !slices.Equal(got.Known, []uint32{2, 3}) || !slices.Equal(got.Marks, []api.Flag{api.FlagSeen, 0}) {
		t.Errorf("behind the news: %v", got)
	}
	big := fmt.Sprintf("t APPEND INBOX {%d}\r\n", api.MaxMail+1) + strings.Repeat("y", api.MaxMail+1)
	if got := play(t, in(t), said{0, big, "t NO not done"}); !same(got, in(t)) {
		t.Error("a mail of more than MaxMail bytes changes something")
	}
}

// 32.2
func TestStoreModes(t *testing.T) {
	const old = api.FlagSeen | api.FlagFlagged
	for _, c := range []struct {
		text  string
		flags api.Flag
		told  string
	}{
		{`FLAGS (\Draft)`, api.FlagDraft, `* 2 FETCH (FLAGS (\Draft)%s)|`},
		{`FLAGS ()`, 0, `* 2 FETCH (FLAGS ()%s)|`},
		{`FLAGS (\Seen \Flagged)`, old, ""},
		{`+FLAGS (\Draft \Seen)`, old | api.FlagDraft, `* 2 FETCH (FLAGS (\Seen \Flagged \Draft)%s)|`},
		{`+FLAGS \Answered`, old | api.FlagAnswered, `* 2 FETCH (FLAGS (\Seen \Answered \Flagged)%s)|`},
		{`+FLAGS ()`, old, ""},
		{`-FLAGS (\Seen \Draft)`, api.FlagFlagged, `* 2 FETCH (FLAGS (\Flagged)%s)|`},
		{`-FLAGS (\Draft)`, old, ""},
		{`FLAGS.SILENT (\Deleted)`, api.FlagDeleted, ""},
		{`+FLAGS.SILENT \Draft \Deleted`, old | api.FlagDraft | api.FlagDeleted, ""},
		{`-flags.silent (\seen \flagged)`, 0, ""},
	} {
		begun := marking(t, selected(t, "x", "y", "z"), 2, old)
		begun = play(t, begun, said{0, "a NOOP", `* 2 FETCH (FLAGS (\Seen \Flagged))|a OK done`})
		for word, number := range map[string]string{"STORE": "", "UID STORE": " UID 2"} {
			told := c.told
			if told != "" {
				told = fmt.Sprintf(c.told, number)
			}
			got := play(t, begun, said{0, "t " + word + " 2 " + c.text, told + "t OK done"})
			has(t, c.text, got, map[uint32]api.Flag{1: 0, 2: c.flags, 3: 0})
			want := api.Session{Phase: api.SessSelected, Known: []uint32{1, 2, 3}, Marks: []api.Flag{0, c.flags, 0}}
			if !sameSess(got.Sessions[0], want) || !sameSess(got.Sessions[1], begun.Sessions[1]) {
				t.Errorf("%s %s: the sessions are %v", word, c.text, got.Sessions)
			}
			play(t, got, said{0, "u NOOP", "u OK done"})
		}
	}
}

// 32.2
func TestStoreOfMails(t *testing.T) {
	s := going(t, selected(t, "1", "2", "3", "4", "5"), 1, 4)
	for _, c := range []struct {
		text, want string
		flags      map[uint32]api.Flag
	}{
		{`STORE 2:3 FLAGS (\Seen)`, `* 2 FETCH (FLAGS (\Seen))|* 3 FETCH (FLAGS (\Seen))|t OK done`, map[uint32]api.Flag{2: 1, 3: 1, 5: 0}},
		{`STORE 5,2 +FLAGS (\Seen)`, `* 2 FETCH (FLAGS (\Seen))|* 5 FETCH (FLAGS (\Seen))|t OK done`, map[uint32]api.Flag{2: 1, 3: 0, 5: 1}},
		{`STORE *:1 FLAGS (\Seen)`, `* 2 FETCH (FLAGS (\Seen))|* 3 FETCH (FLAGS (\Seen))|* 5 FETCH (FLAGS (\Seen))|t OK done`, map[uint32]api.Flag{2: 1, 3: 1, 5: 1}},
		{`STORE 1 FLAGS (\Seen)`, `t OK done`, map[uint32]api.Flag{2: 0, 3: 0, 5: 0}}, // of none that is there still
		{`STORE 1,4 FLAGS.SILENT (\Seen)`, `t OK done`, map[uint32]api.Flag{2: 0, 3: 0, 5: 0}},
		{`STORE 1:4 FLAGS.SILENT (\Seen)`, `t OK done`, map[uint32]api.Flag{2: 1, 3: 1, 5: 0}},
		{`STORE 6 FLAGS (\Seen)`, `t BAD no such mail`, map[uint32]api.Flag{2: 0, 3: 0, 5: 0}},
		{`STORE 1:6 FLAGS (\Seen)`, `t BAD no such mail`, map[uint32]api.Flag{2: 0, 3: 0, 5: 0}},
		{`UID STORE 2:3 FLAGS (\Seen)`, `* 1 EXPUNGE|* 3 EXPUNGE|* 1 FETCH (FLAGS (\Seen) UID 2)|* 2 FETCH (FLAGS (\Seen) UID 3)|t OK done`, map[uint32]api.Flag{2: 1, 3: 1, 5: 0}},
		{`UID STORE 1:* FLAGS.SILENT (\Seen)`, `* 1 EXPUNGE|* 3 EXPUNGE|t OK done`, map[uint32]api.Flag{2: 1, 3: 1, 5: 1}},
		{`UID STORE 9:* FLAGS.SILENT (\Seen)`, `* 1 EXPUNGE|* 3 EXPUNGE|t OK done`, map[uint32]api.Flag{2: 0, 3: 0, 5: 1}},
		{`UID STORE 4,9 FLAGS (\Seen)`, `* 1 EXPUNGE|* 3 EXPUNGE|t OK done`, map[uint32]api.Flag{2: 0, 3: 0, 5: 0}},
	} {
		got := play(t, s, said{0, "t " + c.text, c.want})
		has(t, c.text, got, c.flags)
		if strings.Contains(c.want, "BAD") && !same(got, s) {
			t.Errorf("%s: it is refused, and changes something", c.text)
		}
	}
	play(t, selected(t), said{0, "a STORE * FLAGS ()", "a BAD no such mail"}, said{0, "b UID STORE * FLAGS ()", "b OK done"})
}

// 32.2: a change of nothing is not written
func TestNothingToDoIsNotWritten(t *testing.T) {
	s := going(t, selected(t, "1", "2"), 1)
	s = marking(t, s, 2, api.FlagSeen)
	s.Disk.Fault = 0
	for _, text := range []string{"STORE 1 FLAGS ()", "UID STORE 1 FLAGS ()", "FETCH 1 BODY[]", "FETCH 2 BODY[]", "FETCH 2 BODY.PEEK[]", "EXPUNGE", "UID EXPUNGE 1:*", "CLOSE", "NOOP", "SEARCH ALL", "EXAMINE INBOX"} {
		got, told := do(t, s, 0, "t "+text)
		if !sameFs(got.Disk, s.Disk) || !strings.HasSuffix(told, "t OK done\r\n") && text != "EXAMINE INBOX" {
			t.Errorf("%s: %q, and %v", text, told, got.Disk)
		}
	}
}

// fetched are mails of three kinds.
func fetched(t testing.TB) api.Server {
	return marking(t, selected(t, "A: b\r\n\r\nbody", "\r\n", "C: d"), 2, api.FlagSeen)
}

// 32.2
func TestFetch(t *testing.T) {
	for _, c := range []struct{ text, want string }{
		{"FETCH 1 FLAGS", "* 1 FETCH (FLAGS ())|N|t OK done"},
		{"FETCH 2 FLAGS", `* 2 FETCH (FLAGS (\Seen))|N|t OK done`},
		{"FETCH 1:3 UID", "* 1 FETCH (UID 1)|* 2 FETCH (UID 2)|* 3 FETCH (UID 3)|N|t OK done"},
		{"FETCH 3,1 RFC822.SIZE", "* 1 FETCH (RFC822.SIZE 12)|* 3 FETCH (RFC822.SIZE 4)|N|t OK done"},
		{"FETCH * (UID INTERNALDATE)", `* 3 FETCH (UID 3 INTERNALDATE " 1-Jan-1970 00:00:00 +0000")|N|t OK done`},
		{"FETCH 1 FAST", `* 1 FETCH (FLAGS () INTERNALDATE " 1-Jan-1970 00:00:00 +0000" RFC822.SIZE 12)|N|t OK done`},
		{"FETCH 1 BODY.PEEK[]", "* 1 FETCH (BODY[] {12}|A: b||body)|N|t OK done"},
		{"FETCH 1 BODY.PEEK[HEADER]", "* 1 FETCH (BODY[HEADER] {8}|A: b||)|N|t OK done"},
		{"FETCH 1 BODY.PEEK[TEXT]", "* 1 FETCH (BODY[TEXT] {4}|body)|N|t OK done"},
		{"FETCH 1 BODY[]", `* 1 FETCH (FLAGS (\Seen) BODY[] {12}|A: b||body)|N|t OK done`},
		{"FETCH 1 BODY[HEADER]", `* 1 FETCH (FLAGS (\Seen) BODY[HEADER] {8}|A: b||)|N|t OK done`},
		{"FETCH 3 (BODY[TEXT] UID)", `* 3 FETCH (FLAGS (\Seen) UID 3 BODY[TEXT] {0}|)|N|t OK done`},
		{"FETCH 2 BODY[]", "* 2 FETCH (BODY[] {2}||)|N|t OK done"},
		{"FETCH 2:3 (FLAGS BODY[])", `* 2 FETCH (FLAGS (\Seen) BODY[] {2}||)|* 3 FETCH (FLAGS (\Seen) BODY[] {4}|C: d)|N|t OK done`},
		{"FETCH 2:3 (BODY[])", `* 2 FETCH (BODY[] {2}||)|* 3 FETCH (FLAGS (\Seen) BODY[] {4}|C: d)|N|t OK done`},
		{"FETCH 4 UID", "t BAD no such mail"},
		{"FETCH 1:4 BODY[]", "t BAD no such mail"},
		{"UID FETCH 1 FLAGS", "* 1 FETCH (FLAGS () UID 1)|U|t OK done"},
		{"UID FETCH 2:* FLAGS", `* 2 FETCH (FLAGS (\Seen) UID 2)|* 3 FETCH (FLAGS () UID 3)|U|t OK done`},
		{"UID FETCH 3 BODY[TEXT]", `* 3 FETCH (FLAGS (\Seen) UID 3 BODY[TEXT] {0}|)|U|t OK done`},
		{"UID FETCH 9 BODY[]", "U|t OK done"},
	} {
		s := fetched(t)
		want := strings.Replace(strings.Replace(c.want, "U|", `* 2 FETCH (FLAGS (\Seen) UID 2)|`, 1), "N|", `* 2 FETCH (FLAGS (\Seen))|`, 1)
		got := play(t, s, said{0, "t " + c.text, want})
		l := map[uint32]api.Flag{1: 0, 2: api.FlagSeen, 3: 0}
		for uid := range uint32(3) {
			if strings.Contains(c.want, fmt.Sprintf(`* %d FETCH (FLAGS (\Seen)`, uid+1)) {
				l[uid+1] = api.FlagSeen
			}
		}
		has(t, c.text, got, l)
		if strings.Contains(c.want, "BAD") {
			if !same(got, s) {
				t.Errorf("%s: it is refused, and changes something", c.text)
			}
			continue
		}
		play(t, got, said{0, "u NOOP", "u OK done"}) // what was told is known
	}
}

// 32.2: the others are told of what a fetch marks; those that may only read mark nothing
func TestFetchMarks(t *testing.T) {
	s := selected(t, "x", "y")
	got := play(t, s,
		said{0, "a FETCH 2 BODY[]", `* 2 FETCH (FLAGS (\Seen) BODY[] {1}|y)|a OK done`},
		said{0, "b FETCH 2 BODY[]", `* 2 FETCH (BODY[] {1}|y)|b OK done`},
		said{1, "c NOOP", `* 2 FETCH (FLAGS (\Seen))|c OK done`},
	)
	has(t, "behind a fetch", got, map[uint32]api.Flag{1: 0, 2: api.FlagSeen})
	s = marking(t, reading(t, "x", "y"), 1, api.FlagDraft)
	for _, x := range []said{
		{0, "a FETCH 2 BODY[]", `* 2 FETCH (BODY[] {1}|y)|* 1 FETCH (FLAGS (\Draft))|a OK done`},
		{0, "a UID FETCH 2 BODY[TEXT]", `* 2 FETCH (UID 2 BODY[TEXT] {1}|y)|* 1 FETCH (FLAGS (\Draft) UID 1)|a OK done`},
	} {
		if got = play(t, s, x); !sameFs(got.Disk, s.Disk) {
			t.Errorf("%s, of one that may only read: the disk is changed", x.text)
		}
	}
	s = marking(t, selected(t, "x"), 1, api.FlagFlagged) // what came between is told at once
	play(t, s, said{0, "a FETCH 1 BODY[]", `* 1 FETCH (FLAGS (\Seen \Flagged) BODY[] {1}|x)|a OK done`}, said{0, "b NOOP", "b OK done"})
}

// 32.2: of mails that have gone nothing is told but that; a place is that in the session
func TestFetchOfThoseThatHaveGone(t *testing.T) {
	s := going(t, selected(t, "1", "2", "3"), 2)
	s = putting(t, s, "4")
	play(t, s,
		said{0, "a FETCH 2 BODY[]", "* 4 EXISTS|* 1 RECENT|a OK done"},
		said{0, "b FETCH 1:* UID", "* 1 FETCH (UID 1)|* 3 FETCH (UID 3)|* 4 FETCH (UID 4)|b OK done"},
		said{0, "c FETCH 4 FLAGS", `* 4 FETCH (FLAGS (\Recent))|c OK done`},
		said{0, "d UID FETCH 2:4 FLAGS", `* 3 FETCH (FLAGS () UID 3)|* 4 FETCH (FLAGS (\Recent) UID 4)|* 2 EXPUNGE|d OK done`},
		said{0, "e UID FETCH 2:4 FLAGS", `* 2 FETCH (FLAGS () UID 3)|* 3 FETCH (FLAGS (\Recent) UID 4)|e OK done`},
	)
	play(t, s, said{0, "a FETCH 4 UID", "a BAD no such mail"}, said{0, "b UID FETCH 4 UID", "* 2 EXPUNGE|* 3 EXISTS|* 1 RECENT|b OK done"}) // it was not told of yet
}

// searched tells a server of five mails, of which the first client knows 2, 3 and 5: 1 and 4 have gone, 6 has come.
func searched(t testing.TB) api.Server {
	s := going(t, selected(t, "A: one\n\nhello", "Subject: hello\n\nworld", "B: c\n\nHELLO there", "\nhello", "\nnothing"), 1)
	s, _ = do(t, s, 0, "a NOOP")
	s = going(t, s, 4)
	s, _ = do(t, s, 0, "a NOOP")
	s = marking(t, s, 3, api.FlagSeen)
	return putting(t, s, "\nhello too")
}

// 32.2: behind each of these the news are told
func TestSearch(t *testing.T) {
	for _, c := range []struct{ text, want string }{
		{"SEARCH ALL", "* SEARCH 1 2 3"},
		{"UID SEARCH ALL", "* SEARCH 2 3 5"},
		{"SEARCH TEXT hello", "* SEARCH 1 2"}, // 4 has gone, 6 is not known yet
		{"UID SEARCH TEXT hello", "* SEARCH 2 3"},
		{"SEARCH BODY \"Hello\"", "* SEARCH 2"},
		{"UID SEARCH SUBJECT ELL", "* SEARCH 2"},
		{"SEARCH TEXT nowhere", "* SEARCH"},
		{"UID SEARCH TEXT nowhere", "* SEARCH"},
		{"SEARCH SEEN", "* SEARCH 2"},
		{"SEARCH NOT SEEN", "* SEARCH 1 3"},
		{"SEARCH 2", "* SEARCH 2"},
		{"UID SEARCH 2", "* SEARCH 3"}, // places, told by numbers
		{"SEARCH UID 2", "* SEARCH 1"},
		{"UID SEARCH UID 2", "* SEARCH 2"},
		{"SEARCH *", "* SEARCH 3"},
		{"SEARCH UID *", "* SEARCH"}, // 6 is the greatest of the box
		{"UID SEARCH *", "* SEARCH 5"},
		{"SEARCH 3:1", "* SEARCH 1 2 3"},
		{"SEARCH 2:*", "* SEARCH 2 3"},
		{"SEARCH 9:*", "* SEARCH 3"},
		{"SEARCH 4", "* SEARCH"},
		{"SEARCH 4:9,7", "* SEARCH"},
		{"SEARCH NOT 4:9", "* SEARCH 1 2 3"},
		{"SEARCH NOT 1:*", "* SEARCH"},
		{"SEARCH NOT 2", "* SEARCH 1 3"},
		{"UID SEARCH NOT 2", "* SEARCH 2 5"},
		{"SEARCH 1 2", "* SEARCH"},
		{"SEARCH 1:2 2:3", "* SEARCH 2"},
		{"SEARCH OR 1 3", "* SEARCH 1 3"},
		{"SEARCH OR 9 NOT OR 1 (2 SEEN)", "* SEARCH 3"},
		{"SEARCH (OR (NOT (1)) UID 2) 1:3", "* SEARCH 1 2 3"},
		{"SEARCH NOT NOT 2,1 UID 3:9", "* SEARCH 2"},
		{"SEARCH CHARSET utf-8 TEXT {5}\r\nhello", "* SEARCH 1 2"},
		{"SEARCH CHARSET US-ASCII ALL", "* SEARCH 1 2 3"},
		{"SEARCH RETURN () ALL", `* ESEARCH (TAG "t") ALL 1:3`},
		{"SEARCH RETURN (ALL) 1,3", `* ESEARCH (TAG "t") ALL 1,3`},
		{"SEARCH RETURN (MIN) ALL", `* ESEARCH (TAG "t") MIN 1`},
		{"SEARCH RETURN (MAX) ALL", `* ESEARCH (TAG "t") MAX 3`},
		{"SEARCH RETURN (COUNT) ALL", `* ESEARCH (TAG "t") COUNT 3`},
		{"SEARCH RETURN (MIN MAX ALL COUNT) NOT 1", `* ESEARCH (TAG "t") MIN 2 MAX 3 ALL 2:3 COUNT 2`},
		{"UID SEARCH RETURN (COUNT ALL MAX MIN) ALL", `* ESEARCH (TAG "t") UID MIN 2 MAX 5 ALL 2:3,5 COUNT 3`},
		{"UID SEARCH RETURN () NOT 2", `* ESEARCH (TAG "t") UID ALL 2,5`},
		{"SEARCH RETURN (MIN) 4", `* ESEARCH (TAG "t")`},
		{"UID SEARCH RETURN (MIN MAX ALL) 4", `* ESEARCH (TAG "t") UID`},
		{"SEARCH RETURN (ALL COUNT) 4", `* ESEARCH (TAG "t") COUNT 0`},
	} {
		s := searched(t)
		news := `* 2 FETCH (FLAGS (\Seen))|`
		if strings.HasPrefix(c.text, "UID") {
			news = `* 2 FETCH (FLAGS (\Seen) UID 3)|`
		}
		got := play(t, s, said{0, "t " + c.text, c.want + "|" + news + "* 4 EXISTS|* 1 RECENT|t OK done"})
		if !sameFs(got.Disk, s.Disk) {
			t.Errorf("%s: the disk is changed", c.text)
		}
	}
}

// 32.2: where mails have gone that the client was not told of, places are those in the session, and their mails are not found
func TestSearchOfThoseThatHaveGone(t *testing.T) {
	s := going(t, selected(t, "1", "2", "3", "4"), 2)
	play(t, s,
		said{0, "a SEARCH ALL", "* SEARCH 1 3 4|a OK done"},
		said{0, "b SEARCH 2:3", "* SEARCH 3|b OK done"},
		said{0, "c SEARCH NOT 2", "* SEARCH 1 3 4|c OK done"},
		said{0, "d SEARCH 2", "* SEARCH|d OK done"},
		said{0, "e SEARCH NOT 3", "* SEARCH 1 4|e OK done"},
		said{0, "f UID SEARCH 3", "* SEARCH 3|* 2 EXPUNGE|f OK done"},
		said{0, "g UID SEARCH 3", "* SEARCH 4|g OK done"},
	)
	play(t, selected(t), said{0, "a SEARCH ALL", "* SEARCH|a OK done"}, said{0, "b SEARCH *", "* SEARCH|b OK done"}, said{0, "c SEARCH NOT 1:*", "* SEARCH|c OK done"},
		said{0, "d SEARCH RETURN (COUNT) 1", `* ESEARCH (TAG "d") COUNT 0|d OK done`})
}

// odd tells a server whose box has so many mails, of odd numbers, that the first client knows.
func odd(t testing.TB, many int) api.Server {
	t.Helper()
	s, text := in(t), ""
	put := func(c api.Change) {
		record, errno := log.Frame(c)
		if errno != api.OK {
			t.Fatalf("a record: %d", errno)
		}
		text += record
	}
	var even []uint32
	for n := range uint32(2 * many) {
		put(api.Change{Kind: api.ChangeAppend})
		if n%2 == 1 {
			even = append(even, n+1)
		}
	}
	put(api.Change{Kind: api.ChangeAdd, Uids: even, Flags: api.FlagDeleted})
	put(api.Change{Kind: api.ChangeExpunge, Uids: even})
	f := &s.Disk.Files[0]
	f.Data += text
	f.Synced = len(f.Data)
	s, _ = do(t, s, 0, "a SELECT INBOX")
	return s
}

// 32.2: sets of more spans than may be, handed down and told
func TestSearchOfTooManySpans(t *testing.T) {
	for many, is := range map[int]bool{api.MaxSpans: true, api.MaxSpans + 1: false} {
		s := odd(t, many)
		for text, needs := range map[string]bool{ // which need many spans
			"SEARCH RETURN (COUNT) 1:*":           true,
			"SEARCH RETURN (COUNT) NOT NOT 1:*":   true,
			"SEARCH RETURN (COUNT) OR SEEN 1:*":   true,
			"UID SEARCH RETURN (COUNT) 1:*":       true,
			"UID SEARCH RETURN (ALL) ALL":         true,
			"UID SEARCH RETURN (MIN MAX ALL) ALL": true,
			"SEARCH RETURN (COUNT) ALL":           false,
			"SEARCH RETURN (ALL) ALL":             false,
			"UID SEARCH RETURN (MIN MAX) ALL":     false,
			"SEARCH RETURN (ALL) 1:1024":          false,
			"UID SEARCH ALL":                      false,
		} {
			got, told := do(t, s, 0, "t "+text)
			if want := "t NO not searched\r\n"; needs && !is != (told == want) || !needs && !strings.HasSuffix(told, "\r\nt OK done\r\n") {
				t.Errorf("%s of %d: %.80q", text, many, told)
			}
			if !same(got, s) {
				t.Errorf("%s of %d: something is changed", text, many)
			}
		}
	}
}

// 32.2
func TestSearchThatIsNotAnswered(t *testing.T) {
	s := marking(t, searched(t), 5, api.FlagDraft) // there are news: they are not told
	for what, f := range map[string]api.File{
		"no manifest": {Name: "index", Data: "x"},
		"no segment":  {Name: "index", Data: manifest(t)},
	} {
		broken := s
		broken.Disk.Files = append(slices.Clone(s.Disk.Files), f)
		for _, text := range []string{"SEARCH ALL", "UID SEARCH ALL", "SEARCH RETURN (COUNT) 1", "SEARCH NOT 9", "SEARCH UID 99"} {
			if got := play(t, broken, said{0, "t " + text, "t NO not searched"}); !same(got, broken) {
				t.Errorf("%s, %s: something is changed", what, text)
			}
		}
		play(t, broken, said{0, "t FETCH 1 UID", `* 1 FETCH (UID 2)|* 2 FETCH (FLAGS (\Seen))|* 3 FETCH (FLAGS (\Draft))|* 4 EXISTS|* 1 RECENT|t OK done`})
	}
	deep := strings.Repeat("NOT ", api.MaxDepth-1)
	play(t, selected(t, "x"), said{0, "a SEARCH " + deep + "1", "* SEARCH|a OK done"}, said{0, "b SEARCH " + deep + "ALL", "* SEARCH|b OK done"},
		said{0, "c SEARCH " + deep + "2", "c NO not searched"}) // a key more stands in the place of a set of no mails
}

// manifest tells one of a segment that is nowhere.
func manifest(t testing.TB) string {
	t.Helper()
	d, _ := disk.Make(9000)
	d, errno := manif.Commit(d, api.Manifest{Gen: 1, Next: 2, Segs: []api.SegRef{{Id: 1, Items: 1}}, Upto: 1})
	if errno != api.OK {
		t.Fatalf("a manifest: %d", errno)
	}
	return d.Files[0].Data
}

// 32.2
func TestExpunge(t *testing.T) {
	s := selected(t, "1", "2", "3", "4", "5")
	for _, uid := range []uint32{2, 3, 5} {
		s = marking(t, s, uid, api.FlagDeleted|api.FlagSeen)
	}
	s = putting(t, s, "6")
	s = marking(t, s, 6, api.FlagDeleted) // that the client does not know
	for _, c := range []struct {
		text, want string
		left       []uint32
	}{
		{"EXPUNGE", "* 2 EXPUNGE|* 2 EXPUNGE|* 3 EXPUNGE|t OK done", []uint32{1, 4}},
		{"UID EXPUNGE 2", `* 2 EXPUNGE|* 2 FETCH (FLAGS (\Seen \Deleted) UID 3)|* 4 FETCH (FLAGS (\Seen \Deleted) UID 5)|* 5 EXISTS|* 1 RECENT|t OK done`, []uint32{1, 3, 4, 5, 6}},
		{"UID EXPUNGE 4:*", `* 5 EXPUNGE|* 2 FETCH (FLAGS (\Seen \Deleted) UID 2)|* 3 FETCH (FLAGS (\Seen \Deleted) UID 3)|* 5 EXISTS|* 1 RECENT|t OK done`, []uint32{1, 2, 3, 4, 6}},
		{"UID EXPUNGE 1,3:4", `* 3 EXPUNGE|* 2 FETCH (FLAGS (\Seen \Deleted) UID 2)|* 4 FETCH (FLAGS (\Seen \Deleted) UID 5)|* 5 EXISTS|* 1 RECENT|t OK done`, []uint32{1, 2, 4, 5, 6}},
		{"UID EXPUNGE 1:9", `* 2 EXPUNGE|* 2 EXPUNGE|* 3 EXPUNGE|* 3 EXISTS|* 1 RECENT|t OK done`, []uint32{1, 4, 6}},
		{"UID EXPUNGE 1,4,6:9", `* 2 FETCH (FLAGS (\Seen \Deleted) UID 2)|* 3 FETCH (FLAGS (\Seen \Deleted) UID 3)|* 5 FETCH (FLAGS (\Seen \Deleted) UID 5)|* 6 EXISTS|* 1 RECENT|t OK done`, []uint32{1, 2, 3, 4, 5, 6}},
	} {
		got := play(t, s, said{0, "t " + c.text, c.want})
		if l, _ := box.Uids(boxOf(t, got)); !slices.Equal(l, c.left) {
			t.Errorf("%s: %d are left, not %d", c.text, l, c.left)
		}
		if !sameSess(got.Sessions[1], s.Sessions[1]) {
			t.Errorf("%s: the other session is %v", c.text, got.Sessions[1])
		}
	}
	play(t, selected(t), said{0, "a EXPUNGE", "a OK done"}, said{0, "b UID EXPUNGE *", "b OK done"})
}

// 32.2: no news are told, but to those who are still there
func TestClose(t *testing.T) {
	s := selected(t, "1", "2", "3")
	s = marking(t, s, 2, api.FlagDeleted)
	got := play(t, putting(t, s, "4"), said{0, "a CLOSE", "a OK done"}, said{0, "b CHECK", "b BAD not now"}, said{1, "c NOOP", "* 2 EXPUNGE|* 3 EXISTS|* 1 RECENT|c OK done"})
	has(t, "closed", got, map[uint32]api.Flag{1: 0, 3: 0, 4: 0})
	if !sameSess(got.Sessions[0], api.Session{Phase: api.SessIn}) {
		t.Errorf("closed: %v", got.Sessions[0])
	}
	s, _ = do(t, s, 0, "a EXAMINE INBOX")
	got = play(t, s, said{0, "a CLOSE", "a OK done"})
	if !sameFs(got.Disk, s.Disk) || !sameSess(got.Sessions[0], api.Session{Phase: api.SessIn}) {
		t.Errorf("closed, to be read alone: %v", got)
	}
	got.Disk.Files = nil // what is read alone needs no box for that
	got.Sessions[0] = s.Sessions[0]
	play(t, got, said{0, "a CLOSE", "a OK done"})
}

// 32.2
func TestReadOnly(t *testing.T) {
	s := marking(t, reading(t, "x", "y"), 2, api.FlagDeleted)
	for text, want := range map[string]string{
		`STORE 1 FLAGS (\Seen)`:     "t NO read only",
		`STORE 1 +FLAGS.SILENT ()`:  "t NO read only",
		`UID STORE 1 FLAGS (\Seen)`: "t NO read only",
		`UID STORE 9 FLAGS (\Seen)`: "t NO read only",
		`STORE 3 FLAGS (\Seen)`:     "t BAD no such mail", // that is named ahead of it
		"EXPUNGE":                   "t NO read only",
		"UID EXPUNGE 1":             "t NO read only",
		"UID EXPUNGE 9":             "t NO read only",
	} {
		if got := play(t, s, said{0, "t " + text, want}); !same(got, s) {
			t.Errorf("%s: it is refused, and changes something", text)
		}
		none := s
		none.Disk.Files = nil // nor is it asked whether it could be done
		if got := play(t, none, said{0, "t " + text, want}); !same(got, none) {
			t.Errorf("%s without a box: it is refused, and changes something", text)
		}
	}
	got := play(t, s,
		said{0, "a NOOP", `* 2 FETCH (FLAGS (\Deleted))|a OK done`},
		said{0, "b SEARCH DELETED", "* SEARCH 2|b OK done"},
		said{0, "c FETCH 1:2 BODY[]", "* 1 FETCH (BODY[] {1}|x)|* 2 FETCH (BODY[] {1}|y)|c OK done"},
		said{0, "d APPEND INBOX {1}\r\nz", "* 3 EXISTS|* 1 RECENT|d OK [APPENDUID 7 3] done"},
		said{0, "e CHECK", "e OK done"},
	)
	has(t, "read alone", got, map[uint32]api.Flag{1: 0, 2: api.FlagDeleted, 3: 0})
	if !got.Sessions[0].ReadOnly {
		t.Error("what is read alone is so no more")
	}
}

// 32.2: which commands tell of expunges, and which by numbers
func TestNews(t *testing.T) {
	s := putting(t, marking(t, going(t, selected(t, "1", "2", "3"), 1), 3, api.FlagFlagged), "4")
	const all, places, by = `* 1 EXPUNGE|* 2 FETCH (FLAGS (\Flagged))|* 3 EXISTS|* 1 RECENT|`, `* 3 FETCH (FLAGS (\Flagged))|* 4 EXISTS|* 1 RECENT|`, `* 1 EXPUNGE|* 2 FETCH (FLAGS (\Flagged) UID 3)|* 3 EXISTS|* 1 RECENT|`
	for text, want := range map[string]string{
		"NOOP":                    all,
		"CHECK":                   all,
		"CAPABILITY":              "* CAPABILITY IMAP4rev1 ESEARCH LITERAL+|" + all,
		"EXPUNGE":                 all,
		"UID EXPUNGE 9":           by,
		"FETCH 2 UID":             "* 2 FETCH (UID 2)|" + places,
		"UID FETCH 2 UID":         "* 2 FETCH (UID 2)|" + by,
		"STORE 2 FLAGS ()":        places,
		"UID STORE 2 FLAGS ()":    by,
		"SEARCH 2":                "* SEARCH 2|" + places,
		"UID SEARCH 2":            "* SEARCH 2|" + by,
		"SEARCH RETURN (COUNT) 2": `* ESEARCH (TAG "t") COUNT 1|` + places,
	} {
		for _, who := range []int{0, 1} {
			got := play(t, s, said{who, "t " + text, want + "t OK done"})
			if !sameSess(got.Sessions[1-who], s.Sessions[1-who]) {
				t.Errorf("%s: the other session is %v", text, got.Sessions[1-who])
			}
			rest := "t OK done"
			if strings.Contains(want, "* 3 FETCH") {
				rest = "* 1 EXPUNGE|t OK done"
			}
			play(t, got, said{who, "t NOOP", rest})
		}
	}
	got, told := do(t, s, 0, "t SELECT INBOX")
	if strings.Contains(told, "EXPUNGE") || strings.Contains(told, "FETCH") || strings.Count(told, "EXISTS") != 1 {
		t.Errorf("SELECT tells news: %q", told)
	}
	play(t, got, said{0, "u NOOP", "u OK done"})
}

// 32.2: more mails than may be known
func TestNewsThatAreTooMany(t *testing.T) {
	s := putting(t, in(t), "x")
	known := api.Session{Phase: api.SessSelected}
	for n := range uint32(api.MaxMails) {
		known.Known, known.Marks = append(known.Known, n+1), append(known.Marks, 0)
	}
	f := &s.Disk.Files[0]
	for range api.MaxMails - 1 {
		record, _ := log.Frame(api.Change{Kind: api.ChangeAppend})
		f.Data += record
	}
	f.Synced = len(f.Data)
	s.Sessions[0] = known
	s = putting(t, marking(t, going(t, s, 2), 1, api.FlagSeen), "new")
	got := play(t, s, said{0, "a FETCH 1 UID", "* 1 FETCH (UID 1)|a OK done"})
	if !same(got, s) {
		t.Error("news of too many change something")
	}
	play(t, got, said{0, "b NOOP", `* 2 EXPUNGE|* 1 FETCH (FLAGS (\Seen \Recent))|* 4096 EXISTS|* 4096 RECENT|b OK done`})
	s, told := do(t, s, 1, "c APPEND INBOX {1}\r\nx")
	if told != "c NO not done\r\n" {
		t.Errorf("a mail more than MaxMails: %q", told)
	}
	if n := len(boxOf(t, s).Messages); n != api.MaxMails {
		t.Errorf("%d mails", n)
	}
}

// 32.2: a client's commands on a box that is gone, or torn
func TestBoxesThatAreNotLoaded(t *testing.T) {
	s := selected(t, "x", "y")
	torn, none, other := s, s, s
	torn.Disk.Files = []api.File{s.Disk.Files[0]}
	torn.Disk.Files[0].Data += "x"
	none.Disk.Files = nil
	other.Disk.Files = []api.File{{Name: "box", Data: "no log"}}
	for what, s := range map[string]api.Server{"torn": torn, "none": none, "no log": other} {
		for text, want := range map[string]string{
			"NOOP": "t OK done", "CHECK": "t OK done",
			"CAPABILITY":            "* CAPABILITY IMAP4rev1 ESEARCH LITERAL+|t OK done",
			"SELECT INBOX":          "t NO not done",
			"EXAMINE INBOX":         "t NO not done",
			"APPEND INBOX {1}\r\nx": "t NO not done",
			"APPEND x {1}\r\nx":     "t NO [TRYCREATE] no such box",
			"STORE 1 FLAGS ()":      "t NO not done",
			"UID STORE 9 FLAGS ()":  "t NO not done",
			"STORE 3 FLAGS ()":      "t BAD no such mail",
			"FETCH 1 UID":           "t NO not done",
			"UID FETCH 9 BODY[]":    "t NO not done",
			"FETCH 3 UID":           "t BAD no such mail",
			"SEARCH ALL":            "t NO not searched",
			"EXPUNGE":               "t NO not done",
			"UID EXPUNGE 1":         "t NO not done",
			"CLOSE":                 "t NO not done",
		} {
			if got := play(t, s, said{0, "t " + text, want}); !same(got, s) {
				t.Errorf("%s, %s: something is changed: %v", what, text, got)
			}
		}
		play(t, s, said{0, "t SELECT x", "t NO no such box"}, said{1, "t LOGOUT", "* BYE so long|t OK done"})
	}
}

// changing are commands that change the box, with what they are answered where nothing fails.
func changing() []said {
	return []said{
		{0, "t SELECT INBOX", flags + "* 3 EXISTS|* 0 RECENT|* OK [UIDVALIDITY 7]|* OK [UIDNEXT 4]|t OK [READ-WRITE] done"},
		{0, "t APPEND INBOX {1}\r\nx", `* 1 FETCH (FLAGS (\Seen))|* 3 FETCH (FLAGS (\Deleted))|* 4 EXISTS|* 1 RECENT|t OK [APPENDUID 7 4] done`},
		{1, "t STORE 2 FLAGS (\\Draft)", `* 1 FETCH (FLAGS (\Seen))|* 2 FETCH (FLAGS (\Draft))|* 3 FETCH (FLAGS (\Deleted))|t OK done`},
		{0, "t UID STORE 2 +FLAGS.SILENT (\\Draft)", `* 1 FETCH (FLAGS (\Seen) UID 1)|* 3 FETCH (FLAGS (\Deleted) UID 3)|t OK done`},
		{0, "t FETCH 1:2 BODY[]", `* 1 FETCH (BODY[] {1}|1)|* 2 FETCH (FLAGS (\Seen) BODY[] {1}|2)|* 1 FETCH (FLAGS (\Seen))|* 3 FETCH (FLAGS (\Deleted))|t OK done`},
		{1, "t EXPUNGE", `* 3 EXPUNGE|* 1 FETCH (FLAGS (\Seen))|t OK done`},
		{0, "t UID EXPUNGE 3", `* 3 EXPUNGE|* 1 FETCH (FLAGS (\Seen) UID 1)|t OK done`},
		{0, "t CLOSE", "t OK done"},
	}
}

// troubled tells the server of which changing is.
func troubled(t testing.TB) api.Server {
	return marking(t, marking(t, selected(t, "1", "2", "3"), 1, api.FlagSeen), 3, api.FlagDeleted)
}

// 32.2, 32.5, P8: a write that fails, at each step of each change
func TestWritesThatFail(t *testing.T) {
	for _, x := range changing() {
		for at := range 4 {
			s := troubled(t)
			s.Disk.Fault = at
			want := s
			if at < 2 { // a record is put behind, and synced
				want.Disk.Fault = -1
				got := play(t, s, said{x.who, x.text, "t NO not done"})
				if !same(got, want) {
					t.Errorf("%q, that fails at step %d: %v, not %v", x.text, at, got, want)
				}
				got = play(t, got, x) // it goes well when it is said again
				if got.Disk.Fault != -1 {
					t.Errorf("%q, said again: %v", x.text, got.Disk)
				}
				continue
			}
			if got := play(t, s, x); got.Disk.Fault != at-2 {
				t.Errorf("%q asks for %d steps", x.text, at-got.Disk.Fault)
			}
		}
	}
}

// 32.2, 32.5, P8: a disk that is full
func TestNoRoom(t *testing.T) {
	for _, x := range changing() {
		s := troubled(t)
		s.Disk.Room = len(s.Disk.Files[0].Data)
		if got := play(t, s, said{x.who, x.text, "t NO not done"}); !same(got, s) {
			t.Errorf("%q without room: %v, not %v", x.text, got, s)
		}
		play(t, s, said{0, "a NOOP", `* 1 FETCH (FLAGS (\Seen))|* 3 FETCH (FLAGS (\Deleted))|a OK done`}, said{0, "b SEARCH DELETED", "* SEARCH 3|b OK done"})
	}
}

// 32.2, P6: the power goes at each step of each change
func TestPowerThatGoes(t *testing.T) {
	for _, x := range changing() {
		for at := range 2 {
			s := troubled(t)
			s.Disk.Fuse = at
			got, told, errno := serve.Do(s, x.who, x.text)
			if told != "" || errno != api.ErrPower || !got.Disk.Down || got.Disk.Fuse != 0 || serve.Check(got) != api.OK {
				t.Fatalf("%q, the power goes at step %d: %v, %q, %d", x.text, at, got, told, errno)
			}
			if len(got.Disk.Files[0].Data) <= len(s.Disk.Files[0].Data) || got.Disk.Files[0].Synced != s.Disk.Files[0].Synced {
				t.Errorf("%q, the power goes at step %d: what waits is not there", x.text, at)
			}
			rest := got
			rest.Disk = s.Disk
			if !same(rest, s) {
				t.Errorf("%q, the power goes at step %d: more is changed than the disk", x.text, at)
			}
			behind, _ := do(t, troubled(t), x.who, x.text)
			for keep, want := range []api.Server{s, behind} {
				d, _ := disk.Crash(got.Disk, keep*api.MaxRoom)
				d, _ = store.Recover(d)
				rest.Disk = d
				if !reflect.DeepEqual(boxOf(t, rest), boxOf(t, want)) {
					t.Errorf("%q, behind a crash: %v", x.text, boxOf(t, rest))
				}
			}
		}
		s := troubled(t)
		s.Disk.Fuse = 2
		if got := play(t, s, x); got.Disk.Fuse != 0 || got.Disk.Down {
			t.Errorf("%q, with power just for it: %v", x.text, got.Disk)
		}
	}
	s := troubled(t)
	s.Disk.Fuse = 0
	play(t, s, said{0, "a NOOP", `* 1 FETCH (FLAGS (\Seen))|* 3 FETCH (FLAGS (\Deleted))|a OK done`}, said{1, "b SEARCH ALL", `* SEARCH 1 2 3|* 1 FETCH (FLAGS (\Seen))|* 3 FETCH (FLAGS (\Deleted))|b OK done`})
}

// 32.2: SELECT that is refused leaves the session as it was
func TestSelectThatIsRefused(t *testing.T) {
	s := in(t)
	s.Disk.Fault = 0
	got := play(t, s, said{0, "a SELECT INBOX", "a NO not done"})
	if !sameSess(got.Sessions[0], api.Session{Phase: api.SessIn}) {
		t.Errorf("refused: %v", got.Sessions[0])
	}
	s = reading(t, "x")
	s.Disk.Room = len(s.Disk.Files[0].Data)
	if got = play(t, s, said{0, "a SELECT INBOX", "a NO not done"}); !same(got, s) {
		t.Errorf("refused: %v", got)
	}
	play(t, s, said{0, "a EXAMINE INBOX", flags + "* 1 EXISTS|* 0 RECENT|* OK [UIDVALIDITY 7]|* OK [UIDNEXT 2]|a OK [READ-ONLY] done"}) // that needs no room
}

// stepped sees that a step does what index does, and nothing to the rest.
func stepped(t *testing.T, what string, s api.Server, step int) {
	t.Helper()
	want := s
	many, wantErrno := 0, api.OK
	switch step {
	case 0:
		want.Disk, many, wantErrno = index.Flush(s.Disk)
	case 1:
		want.Disk, many, wantErrno = index.Merge(s.Disk, s.Fan)
	case 2:
		want.Disk, wantErrno = index.Collect(s.Disk)
	}
	got, n, errno := serve.Step(s, step)
	if !same(got, want) || n != many || errno != wantErrno {
		t.Errorf("%s, step %d: %v, %d, %d, not %v, %d, %d", what, step, got, n, errno, want, many, wantErrno)
	}
}

// 32.2
func TestStep(t *testing.T) {
	s := selected(t, "hello", "world")
	step := func(what, many int, want api.Errno) {
		t.Helper()
		stepped(t, "on the way", s, what)
		next, n, errno := serve.Step(s, what)
		if n != many || errno != want {
			t.Errorf("the step %d: %d, %d, not %d, %d", what, n, errno, many, want)
		}
		s = next
	}
	s.Fan = 3
	step(1, 0, api.ErrNone)
	step(2, 0, api.OK)
	step(0, 2, api.OK)
	step(0, 0, api.ErrNone)
	s = putting(t, s, "third")
	step(0, 1, api.OK)
	step(1, 0, api.ErrNone) // two segments: the fan is 3
	s = putting(t, s, "fourth")
	step(0, 1, api.OK)
	s.Fan = 4
	step(1, 0, api.ErrNone)
	three := s
	three.Fan = 3
	if _, n, errno := serve.Step(three, 1); n != 3 || errno != api.OK {
		t.Errorf("merged by 3: %d, %d", n, errno)
	}
	s.Fan = 2
	step(1, 2, api.OK)
	if n := len(s.Disk.Files); n != 6 { // box, index, and four segments
		t.Errorf("%d files", n)
	}
	step(2, 0, api.OK)
	if n := len(s.Disk.Files); n != 4 {
		t.Errorf("%d files", n)
	}
	play(t, s, said{0, "a SEARCH TEXT o", "* SEARCH 1 2|* 4 EXISTS|* 2 RECENT|a OK done"}, said{1, "b UID SEARCH TEXT d", "* SEARCH 2|* 4 EXISTS|* 2 RECENT|b OK done"})
	for _, what := range []int{-1, 3, 4, -1 << 63, 1<<63 - 1} {
		if got, n, errno := serve.Step(s, what); !same(got, api.Server{}) || n != 0 || errno != api.ErrRange {
			t.Errorf("the step %d: %v, %d, %d, not ErrRange alone", what, got, n, errno)
		}
	}
}

// 32.2, P8: a step that fails leaves the disk as it is then, and changes no search's answer
func TestStepsThatFail(t *testing.T) {
	begun := putting(t, selected(t, "hello", "world"), "hello world")
	two, _, _ := serve.Step(begun, 0)
	two, _, _ = serve.Step(putting(t, two, "and hello"), 0)
	two = going(t, two, 1)
	merged, _, _ := serve.Step(two, 1)
	for what, s := range map[string]api.Server{"begun": begun, "of two segments": two, "merged": merged} {
		_, found := do(t, s, 0, "a UID SEARCH RETURN (ALL) TEXT hello")
		for step := range 3 {
			for at := range 9 {
				for _, power := range []bool{false, true} {
					broken := s
					if broken.Disk.Fault = at; power {
						broken.Disk.Fault, broken.Disk.Fuse = -1, at
					}
					stepped(t, fmt.Sprint(what, " at ", at), broken, step)
					got, _, _ := serve.Step(broken, step)
					if got.Disk.Down {
						got.Disk, _ = disk.Crash(got.Disk)
					}
					got.Disk.Fault = -1
					if _, told := do(t, got, 0, "a UID SEARCH RETURN (ALL) TEXT hello"); told != found {
						t.Errorf("%s, the step %d fails at %d: %q, not %q", what, step, at, told, found)
					}
				}
			}
			full := s
			full.Disk.Room = 0
			for _, f := range s.Disk.Files {
				full.Disk.Room += len(f.Data)
			}
			stepped(t, what+", full", full, step)
		}
	}
}

// 32.2: where the index can't be loaded nothing is done
func TestStepsOfWhatIsNotLoaded(t *testing.T) {
	s := selected(t, "x")
	none, broken := s, s
	none.Disk.Files = nil
	broken.Disk.Files = append(slices.Clone(s.Disk.Files), api.File{Name: "index", Data: "x"})
	for what, c := range map[string]struct {
		s     api.Server
		errno api.Errno
	}{"no box": {none, api.ErrNone}, "no manifest": {broken, api.ErrCode}} {
		for step := range 3 {
			if got, n, errno := serve.Step(c.s, step); !same(got, c.s) || n != 0 || errno != c.errno {
				t.Errorf("%s, step %d: %v, %d, %d, not %d and the server as it was", what, step, got, n, errno, c.errno)
			}
		}
	}
}

// 32.2, 32.6: two clients tell each other's changes by their news
func TestTwoClients(t *testing.T) {
	play(t, in(t),
		said{0, "a APPEND INBOX {1}\r\nx", "a OK [APPENDUID 7 1] done"},
		said{0, "b SELECT INBOX", flags + "* 1 EXISTS|* 1 RECENT|* OK [UIDVALIDITY 7]|* OK [UIDNEXT 2]|b OK [READ-WRITE] done"},
		said{1, "c SELECT INBOX", flags + "* 1 EXISTS|* 0 RECENT|* OK [UIDVALIDITY 7]|* OK [UIDNEXT 2]|c OK [READ-WRITE] done"},
		said{1, "d APPEND INBOX (\\Flagged) {1}\r\ny", "* 2 EXISTS|* 1 RECENT|d OK [APPENDUID 7 2] done"},
		said{0, "e STORE 1 +FLAGS (\\Deleted)", `* 1 FETCH (FLAGS (\Deleted))|* 2 EXISTS|* 1 RECENT|e OK done`},
		said{1, "f FETCH 2 BODY[]", `* 2 FETCH (FLAGS (\Seen \Flagged \Recent) BODY[] {1}|y)|* 1 FETCH (FLAGS (\Deleted))|f OK done`},
		said{1, "g EXPUNGE", "* 1 EXPUNGE|g OK done"},
		said{0, "h FETCH 1:2 UID", `* 2 FETCH (UID 2)|* 2 FETCH (FLAGS (\Seen \Flagged \Recent))|h OK done`},
		said{0, "i STORE 1 FLAGS (\\Draft)", "i OK done"},
		said{0, "j SEARCH ALL", "* SEARCH 2|j OK done"},
		said{0, "k UID SEARCH ALL", "* SEARCH 2|* 1 EXPUNGE|k OK done"},
		said{0, "l SEARCH ALL", "* SEARCH 1|l OK done"},
		said{0, "m UID STORE 2 FLAGS ()", `* 1 FETCH (FLAGS (\Recent) UID 2)|m OK done`},
		said{1, "n CHECK", `* 1 FETCH (FLAGS (\Recent))|n OK done`},
		said{1, "o APPEND INBOX {1}\r\nz", "* 2 EXISTS|* 2 RECENT|o OK [APPENDUID 7 3] done"},
		said{0, "p NOOP", "* 2 EXISTS|* 2 RECENT|p OK done"},
	)
}

// 32, the document's example
func TestTheDocumentsExample(t *testing.T) {
	s := putting(t, made(t, 1), "x", "y")
	play(t, s,
		said{0, "a LOGIN u p", "a OK done"},
		said{0, "b SELECT INBOX", flags + "* 2 EXISTS|* 2 RECENT|* OK [UIDVALIDITY 7]|* OK [UIDNEXT 3]|b OK [READ-WRITE] done"},
		said{0, "c SEARCH ALL", "* SEARCH 1 2|c OK done"},
	)
}

// texts tells all texts of a server.
func texts(s api.Server) []string {
	l := []string{s.User, s.Pass}
	for _, f := range s.Disk.Files {
		l = append(l, f.Name, f.Data)
	}
	return l
}

// where tells at which byte of memory a list begins, and behind which one it ends; of a list that has room behind its end that, too.
func where[T any](l []T) [2]uintptr {
	if cap(l) == 0 {
		return [2]uintptr{}
	}
	from := uintptr(unsafe.Pointer(unsafe.SliceData(l)))
	return [2]uintptr{from, from + uintptr(cap(l))*unsafe.Sizeof(l[:1][0])}
}

// memory tells all of a server's memory.
func memory(s api.Server) [][2]uintptr {
	l := [][2]uintptr{where(s.Disk.Files), where(s.Sessions)}
	for _, x := range s.Sessions {
		l = append(l, where(x.Known), where(x.Marks))
	}
	for _, x := range texts(s) {
		if x != "" {
			l = append(l, where(unsafe.Slice(unsafe.StringData(x), len(x))))
		}
	}
	return l
}

// apart sees that two servers share no memory.
func apart(t *testing.T, what string, a, b api.Server) {
	t.Helper()
	for _, x := range memory(a) {
		for _, y := range memory(b) {
			if x[0] < y[1] && y[0] < x[1] {
				t.Fatalf("%s: memory is shared", what)
			}
		}
	}
}

// copied tells the same server in other memory, with room behind its lists.
func copied(s api.Server) api.Server {
	s.Disk.Files = append(make([]api.File, 0, len(s.Disk.Files)+9), s.Disk.Files...)
	for i := range s.Disk.Files {
		f := &s.Disk.Files[i]
		f.Name, f.Data = strings.Clone(f.Name), strings.Clone(f.Data)
	}
	s.User, s.Pass = strings.Clone(s.User), strings.Clone(s.Pass)
	s.Sessions = append(make([]api.Session, 0, len(s.Sessions)+9), s.Sessions...)
	for i := range s.Sessions {
		x := &s.Sessions[i]
		x.Known, x.Marks = append(make([]uint32, 0, len(x.Known)+9), x.Known...), append(make([]api.Flag, 0, len(x.Marks)+9), x.Marks...)
	}
	return s
}

// room tells all that stands in a server's lists, and behind their ends.
func room(s api.Server) string {
	all := []any{s.Disk.Files[:cap(s.Disk.Files)], s.Sessions[:cap(s.Sessions)]}
	for _, x := range s.Sessions {
		all = append(all, x.Known[:cap(x.Known)], x.Marks[:cap(x.Marks)])
	}
	return fmt.Sprintf("%q", all)
}

// 32.3
func TestNewMemory(t *testing.T) {
	whole := troubled(t)
	down, full, faulty, fused, none := whole, whole, whole, whole, whole
	down.Disk.Down = true
	full.Sessions = append(slices.Clone(whole.Sessions), make([]api.Session, api.MaxSessions-2)...)
	faulty.Disk.Fault = 1
	fused.Disk.Fuse = 1
	none.Disk.Files = append(slices.Clone(whole.Disk.Files), api.File{Name: "index", Data: "no manifest"})
	commands := []string{"a NOOP", "a NOPE", "a SEARCH ALL", "a FETCH 1:3 BODY[]", "a STORE 1:3 FLAGS ()", "a EXPUNGE", "a CLOSE", "a LOGOUT", "a SELECT INBOX", "a EXAMINE INBOX", "a SELECT x", "a APPEND INBOX {1}\r\nx", "a LOGIN u p", "a CAPABILITY"}
	for what, s := range map[string]api.Server{"whole": whole, "down": down, "full": full, "faulty": faulty, "fused": fused, "without an index": none} {
		s = copied(s)
		was, stood := copied(s), room(s)
		l := []api.Server{s}
		for range 2 {
			got, _, _, _ := serve.Connect(s)
			l = append(l, got)
			for _, text := range commands {
				got, _, _ = serve.Do(s, 0, text)
				l = append(l, got)
			}
			for step := range 4 {
				got, _, _ = serve.Step(s, step)
				l = append(l, got)
			}
		}
		for i := range l {
			for j := range i {
				apart(t, fmt.Sprint(what, ", ", j, " and ", i), l[i], l[j])
			}
		}
		if !same(s, was) || room(s) != stood {
			t.Errorf("%s: what is handed in is changed", what)
		}
	}
	user := strings.Clone("some user")
	one, _ := serve.Make(900, 1, user, user, 2)
	two, _ := serve.Make(900, 1, user, user, 2)
	apart(t, "made", one, two)
	apart(t, "made of", one, api.Server{User: user, Disk: api.Fs{Files: []api.File{{Name: one.Pass[:0], Data: user}}}})
	if unsafe.StringData(one.User) == unsafe.StringData(one.Pass) {
		t.Error("both texts are one")
	}
}

// model is a server by the words of the chapter, without a disk: its box, and its sessions.
type model struct {
	box      api.Box
	sessions []api.Session
}

// do answers a command, and tells the lines.
func (m *model) do(who int, text string) string {
	c, errno := cmd.Parse(text)
	s := &m.sessions[who]
	switch {
	case errno != api.OK:
		return cmd.Tag(text) + " BAD not understood\r\n"
	case !allowed(c.Kind, s.Phase):
		return c.Tag + " BAD not now\r\n"
	}
	told, said := "", "OK done"
	switch c.Kind {
	case api.CmdLogin:
		s.Phase = api.SessIn
	case api.CmdSelect, api.CmdExamine:
		if !strings.EqualFold(c.Name, "INBOX") {
			*s = api.Session{Phase: api.SessIn}
			return say.Done(c.Tag, "NO", "no such box")
		}
		said = "OK [READ-ONLY] done"
		if c.Kind == api.CmdSelect {
			m.change(api.Change{Kind: api.ChangeSelect})
			said = "OK [READ-WRITE] done"
		}
		*s, told, _ = sess.Select(*s, m.box, c.Kind == api.CmdExamine)
		return told + c.Tag + " " + said + "\r\n"
	case api.CmdAppend:
		uid := m.change(api.Change{Kind: api.ChangeAppend, Flags: c.Flags, Inner: c.Inner, Raw: c.Raw})[0]
		said = fmt.Sprintf("OK [APPENDUID %d %d] done", m.box.Validity, uid)
	case api.CmdStore:
		if told, is := m.store(s, c); is {
			return told
		}
	case api.CmdFetch:
		lines, is := m.fetch(s, c)
		if !is {
			return c.Tag + " BAD no such mail\r\n"
		}
		told = lines
	case api.CmdSearch:
		told = m.search(s, c)
	case api.CmdExpunge, api.CmdClose:
		if c.Kind == api.CmdExpunge && s.ReadOnly {
			return c.Tag + " NO read only\r\n"
		}
		if !s.ReadOnly {
			m.expunge(s, c)
		}
		if c.Kind == api.CmdClose {
			*s = api.Session{Phase: api.SessIn}
		}
	}
	if s.Phase == api.SessSelected {
		places := c.Kind == api.CmdFetch || c.Kind == api.CmdStore || c.Kind == api.CmdSearch
		news := ""
		*s, news, _ = sess.News(*s, m.box, c.Uid || !places, c.Uid)
		told += news
	}
	return told + c.Tag + " " + said + "\r\n"
}

// allowed tells whether a command is so in a phase.
func allowed(kind api.CmdKind, phase api.SessPhase) bool {
	first := map[api.CmdKind]api.SessPhase{api.CmdNoop: 0, api.CmdLogin: 0, api.CmdSelect: 1, api.CmdExamine: 1, api.CmdAppend: 1}
	from, is := first[kind]
	if !is {
		from = 2
	}
	return phase >= from && (kind != api.CmdLogin || phase == 0)
}

// change changes the box.
func (m *model) change(c api.Change) []uint32 {
	b, l, errno := box.Do(m.box, c)
	if errno != api.OK {
		panic(errno)
	}
	m.box = b
	return l
}

// asked tells the numbers of a set, and whether its places are all there.
func asked(s api.Session, c api.Command) ([]uint32, bool) {
	var l []uint32
	most := uint32(len(s.Known))
	if c.Uid && most > 0 {
		most = s.Known[most-1]
	}
	for _, x := range c.Set {
		if !c.Uid && (max(x.From, x.To) > most || most == 0) {
			return nil, false
		}
	}
	for i, n := range s.Known {
		at := uint32(i + 1)
		if c.Uid {
			at = n
		}
		if nset.Has(c.Set, most, at) {
			l = append(l, n)
		}
	}
	return l, true
}

// store tells how it is refused, if it is.
func (m *model) store(s *api.Session, c api.Command) (string, bool) {
	l, is := asked(*s, c)
	switch {
	case !is:
		return c.Tag + " BAD no such mail\r\n", true
	case s.ReadOnly:
		return c.Tag + " NO read only\r\n", true
	}
	for _, n := range l {
		if _, errno := box.Find(m.box, n); errno == api.OK {
			m.change(api.Change{Kind: c.Mode, Uids: []uint32{n}, Flags: c.Flags})
			m.known(s, n, c.Silent)
		}
	}
	return "", false
}

// known marks a mail, if it is so.
func (m *model) known(s *api.Session, n uint32, is bool) {
	for i, k := range s.Known {
		if mail, _ := box.Find(m.box, n); k == n && is {
			s.Marks[i] = mail.Flags
		}
	}
}

// fetch tells the lines of each mail, if all places are there.
func (m *model) fetch(s *api.Session, c api.Command) (string, bool) {
	l, is := asked(*s, c)
	told := ""
	for _, n := range l {
		mail, errno := box.Find(m.box, n)
		if errno != api.OK {
			continue
		}
		items := c.Items
		if c.Items&api.FetchSeen > 0 && !s.ReadOnly && mail.Flags&api.FlagSeen == 0 {
			m.change(api.Change{Kind: api.ChangeAdd, Uids: []uint32{n}, Flags: api.FlagSeen})
			m.known(s, n, true)
			items |= api.FetchFlags
			mail.Flags |= api.FlagSeen
		}
		told += say.Fetch(slices.Index(s.Known, n)+1, mail, items, n > m.box.Mark)
	}
	return told, is
}

// search asks of each mail that the client knows whether it is so, its place being that in the session.
func (m *model) search(s *api.Session, c api.Command) string {
	var l []uint32
	for i, n := range s.Known {
		if _, errno := box.Find(m.box, n); errno != api.OK || !m.so(c.Key, n, i+1, len(s.Known)) {
			continue
		}
		if !c.Uid {
			n = uint32(i + 1)
		}
		l = append(l, n)
	}
	if !c.Wanted {
		return say.Search(l...)
	}
	told := `* ESEARCH (TAG "` + c.Tag + `")`
	if c.Uid {
		told += " UID"
	}
	if c.Want&api.WantMin > 0 && len(l) > 0 {
		told += fmt.Sprint(" MIN ", l[0])
	}
	if c.Want&api.WantMax > 0 && len(l) > 0 {
		told += fmt.Sprint(" MAX ", l[len(l)-1])
	}
	if c.Want&api.WantAll > 0 && len(l) > 0 {
		set, _ := nset.Pack(l...)
		text, _ := nset.Write(set...)
		told += " ALL " + text
	}
	if c.Want&api.WantCount > 0 {
		told += fmt.Sprint(" COUNT ", len(l))
	}
	return told + "\r\n"
}

// so tells whether a mail is so, of a key.
func (m *model) so(k api.Key, n uint32, place, most int) bool {
	switch k.Kind {
	case api.KeyPlaces:
		return nset.Has(k.Set, uint32(most), uint32(place))
	case api.KeyNot:
		return !m.so(k.Kids[0], n, place, most)
	case api.KeyOr:
		return slices.ContainsFunc(k.Kids, func(kid api.Key) bool { return m.so(kid, n, place, most) })
	case api.KeyAnd:
		return !slices.ContainsFunc(k.Kids, func(kid api.Key) bool { return !m.so(kid, n, place, most) })
	}
	is, _ := sat.Match(k, m.box, n)
	return is
}

// expunge takes what is marked, of the set, if the command has one.
func (m *model) expunge(s *api.Session, c api.Command) {
	l, _ := asked(*s, c)
	for _, mail := range m.box.Messages {
		if mail.Flags&api.FlagDeleted > 0 && (!c.Uid || slices.Contains(l, mail.Uid)) {
			m.change(api.Change{Kind: api.ChangeExpunge, Uids: []uint32{mail.Uid}})
		}
	}
}

// any one of some texts.
func one(r *rand.Rand, l ...string) string {
	return l[r.Intn(len(l))]
}

// randomSet tells a set's text.
func randomSet(r *rand.Rand) string {
	end := func() string { return one(r, "1", "2", "3", "4", "5", "7", "9", "*") }
	return one(r, end(), end()+":"+end(), end()+","+end(), "1:*")
}

// randomKey tells a search's words.
func randomKey(r *rand.Rand, deep int) string {
	if deep > 0 && r.Intn(2) == 0 {
		return one(r, "NOT ", "OR "+randomKey(r, deep-1)+" ") + "(" + randomKey(r, deep-1) + " " + randomKey(r, deep-1) + ")"
	}
	return one(r, "ALL", "SEEN", "UNDELETED", "NEW", "TEXT hello", "BODY wor", "SUBJECT l", "UID "+randomSet(r), randomSet(r), randomSet(r), "LARGER 12")
}

// randomCommand tells any.
func randomCommand(r *rand.Rand) string {
	uid := one(r, "", "UID ")
	flags := one(r, "()", `(\Seen)`, `(\Deleted)`, `(\Deleted \Draft)`, `\Deleted \Seen`)
	mail := one(r, "Subject: hello\n\nworld", "A: b\n\nhello", "hello", "\nWORLD", "")
	switch r.Intn(12) {
	case 0:
		return one(r, "NOOP", "CHECK", "LOGIN u p", "SELECT x", "EXAMINE INBOX", "CLOSE", "NOOP")
	case 1:
		return one(r, "SELECT INBOX", "EXPUNGE", "EXPUNGE")
	case 2:
		return "UID EXPUNGE " + randomSet(r)
	case 3, 4, 5:
		return fmt.Sprintf("APPEND inbox %s {%d}\r\n%s", one(r, "()", `(\Seen)`, `(\Deleted)`), len(mail), mail)
	case 6, 7, 8:
		return uid + "STORE " + randomSet(r) + " " + one(r, "", "+", "-") + "FLAGS" + one(r, "", ".SILENT") + " " + flags
	case 9:
		return uid + "FETCH " + randomSet(r) + " " + one(r, "FLAGS", "UID", "FAST", "BODY[]", "BODY.PEEK[TEXT]", "(BODY[HEADER] FLAGS)")
	}
	return uid + "SEARCH " + one(r, "", "", "RETURN () ", "RETURN (MIN MAX COUNT) ", "RETURN (ALL) ") + randomKey(r, 3)
}

// 32.2, 32.4, 32.5, 32.6, P5, P9: many commands of three clients, with steps of the index between, held against the model
func TestManyCommands(t *testing.T) {
	r := rand.New(rand.NewSource(32))
	ended := map[string]int{}
	for range 60 {
		s := made(t, 3)
		m := model{sessions: make([]api.Session, 3)}
		m.box, _ = box.Make(7)
		for n := range 120 {
			who, text := r.Intn(3), fmt.Sprint("t", n, " ", randomCommand(r))
			if s.Sessions[who].Phase < api.SessSelected && r.Intn(3) > 0 { // else most were refused
				text = "t" + one(r, " LOGIN u p", " SELECT inbox", " SELECT INBOX", " EXAMINE INBOX")
			}
			ahead := copied(s)
			next, told := do(t, s, who, text)
			want := m.do(who, text)
			if told != want {
				t.Fatalf("%q of %v, of %v: %q, not %q", text, ahead.Sessions[who], m.box, told, want)
			}
			for i := range m.sessions {
				if !sameSess(next.Sessions[i], m.sessions[i]) || i != who && !sameSess(next.Sessions[i], ahead.Sessions[i]) {
					t.Fatalf("%q: session %d is %v, not %v", text, i, next.Sessions[i], m.sessions[i])
				}
			}
			end := strings.Fields(told[strings.LastIndex(told[:len(told)-2], "\n")+1:])[1]
			if end != "OK" && !sameFs(next.Disk, ahead.Disk) {
				t.Fatalf("%q is refused, and changes the disk", text)
			}
			if b := boxOf(t, next); fmt.Sprint(b) != fmt.Sprint(m.box) {
				t.Fatalf("%q: the box is %v, not %v", text, b, m.box)
			}
			ended[end]++
			s = next
			if r.Intn(4) == 0 {
				if s, _, _ = serve.Step(s, r.Intn(3)); serve.Check(s) != api.OK {
					t.Fatal("behind a step the server is not right")
				}
			}
		}
	}
	if ended["OK"] < 3000 || ended["NO"] < 50 || ended["BAD"] < 300 {
		t.Errorf("they ended so: %v", ended)
	}
}

// P1, P3, P4, P7: whatever is sent, in whatever servers, is answered, alike each time, and nothing runs on
func TestAnythingIsAnswered(t *testing.T) {
	ahead := runtime.NumGoroutine()
	r := rand.New(rand.NewSource(1))
	all := selected(t, "Subject: x\n\nhello", "y")
	all, _, _ = serve.Step(all, 0)
	ended := map[api.Errno]int{}
	for range 6000 {
		s := copied(all)
		switch r.Intn(12) {
		case 0:
			s.Fan = r.Intn(30) - 5
		case 1:
			s.Sessions[r.Intn(2)].Phase = api.SessPhase(r.Intn(5))
		case 2:
			f := &s.Disk.Files[r.Intn(3)]
			bytes := []byte(f.Data)
			bytes[r.Intn(len(bytes))] ^= 1 << r.Intn(8)
			f.Data = string(bytes)
		case 3:
			s.Disk.Fuse, s.Disk.Fault = r.Intn(5)-2, r.Intn(5)-2
		case 4:
			s.Sessions[1].Known[1], s.Sessions[0].Known = uint32(r.Intn(5)), nil
		case 5:
			s.Disk.Down = true
		case 6:
			s.Sessions[0].Known[1], s.Sessions[1].Known[0] = uint32(2+r.Intn(9)), uint32(r.Intn(2))
		}
		text := "t " + randomCommand(r)
		for range r.Intn(3) {
			at := r.Intn(len(text))
			text = text[:at] + one(r, "", "(", ")", "\"", "{1}\r\nx", "\x00", "*", ",", " ", "+", "\r\n") + text[at+r.Intn(2):]
		}
		who := r.Intn(4) - 1
		got, told, errno := serve.Do(s, who, text)
		again, alike, _ := serve.Do(s, who, text)
		if !same(got, again) || told != alike {
			t.Fatalf("%q of %v: %q and %q", text, s, told, alike)
		}
		last := strings.LastIndex("\r\n"+strings.TrimSuffix(told, "\r\n"), "\r\n")
		if tag := cmd.Tag(text); errno == api.OK && (serve.Check(got) != api.OK || !strings.HasPrefix(told[last:], tag+" ")) {
			t.Fatalf("%q of %v: %q", text, s, told)
		}
		ended[errno]++
		serve.Step(s, r.Intn(5)-1)
		serve.Connect(s)
	}
	if ended[api.OK] < 1500 || ended[api.ErrForm] < 300 || ended[api.ErrPower] < 200 || ended[api.ErrRange] < 1000 {
		t.Errorf("they ended so: %v", ended)
	}
	if behind := runtime.NumGoroutine(); behind > ahead { // fewer, if that of an earlier test was just ending
		t.Errorf("%d goroutines ahead, %d behind", ahead, behind)
	}
}
