package cmd_test

import (
	"fmt"
	"maps"
	"math"
	"math/rand"
	"reflect"
	"regexp"
	"runtime"
	"slices"
	"strings"
	"testing"
	"unsafe"

	"missive/api"
	"missive/cmd"
	"missive/date"
	"missive/key"
	"missive/lex"
	"missive/nset"
	"missive/runes"
)

// The signatures that the chapter lists.
var (
	_ func(api.Command) api.Errno           = cmd.Check
	_ func(string) (api.Command, api.Errno) = cmd.Parse
	_ func(string) string                   = cmd.Tag
	_ func(api.Flag) string                 = cmd.Flags
	_ func(string) (api.Flag, api.Errno)    = cmd.Flag
)

// Short ways to tell what commands have.
var (
	every  = api.Key{Kind: api.KeyAll}
	seen   = api.Key{Kind: api.KeyFlag, Flags: api.FlagSeen}
	some   = spans(1, 3)
	longID = strings.Repeat("t", api.MaxTag)
)

const (
	told  = " 5-Feb-1996 10:00:01 -0130"
	fast  = api.FetchFlags | api.FetchInner | api.FetchSize
	after = api.FetchBody | api.FetchHead | api.FetchText // what may be marked as seen
)

// moment is the time that told tells.
var moment = api.Time{Day: 9531, Second: 36001, Zone: -90}

// spans tells some by their ends.
func spans(ends ...uint32) []api.Span {
	var l []api.Span
	for i := 0; i < len(ends); i += 2 {
		l = append(l, api.Span{From: ends[i], To: ends[i+1]})
	}
	return l
}

// commas tells a set's text of so many spans.
func commas(many int) string {
	return strings.TrimSuffix(strings.Repeat("7,", many), ",")
}

// plainKey makes lists of nothing none.
func plainKey(k api.Key) api.Key {
	k.Set = append([]api.Span(nil), k.Set...)
	var kids []api.Key
	for _, kid := range k.Kids {
		kids = append(kids, plainKey(kid))
	}
	k.Kids = kids
	return k
}

// plain makes lists of nothing none, too, and has lists of its own.
func plain(c api.Command) api.Command {
	c.Set = append([]api.Span(nil), c.Set...)
	c.Key = plainKey(c.Key)
	return c
}

// same takes nil and empty lists as alike.
func same(a, b api.Command) bool {
	return reflect.DeepEqual(plain(a), plain(b))
}

func named(kind api.CmdKind, name string) api.Command {
	return api.Command{Kind: kind, Name: name}
}

func login(user, pass string) api.Command {
	return api.Command{Kind: api.CmdLogin, User: user, Pass: pass}
}

func come(name string, f api.Flag, raw string) api.Command {
	return api.Command{Kind: api.CmdAppend, Name: name, Flags: f, Raw: raw}
}

func comeAt(name string, f api.Flag, inner api.Time, raw string) api.Command {
	c := come(name, f, raw)
	c.Timed, c.Inner = true, inner
	return c
}

func store(set []api.Span, mode api.ChangeKind, silent bool, f api.Flag) api.Command {
	return api.Command{Kind: api.CmdStore, Set: set, Mode: mode, Silent: silent, Flags: f}
}

func fetch(set []api.Span, items api.Fetch) api.Command {
	return api.Command{Kind: api.CmdFetch, Set: set, Items: items}
}

func search(k api.Key) api.Command {
	return api.Command{Kind: api.CmdSearch, Key: k}
}

func wanted(w api.Want, k api.Key) api.Command {
	return api.Command{Kind: api.CmdSearch, Wanted: true, Want: w, Key: k}
}

func uid(c api.Command) api.Command {
	c.Uid = true
	return c
}

func text(s string) api.Key { return api.Key{Kind: api.KeyText, Text: s} }

func and(l ...api.Key) api.Key { return api.Key{Kind: api.KeyAnd, Kids: l} }

// sayings are words behind a tag, and what they say, but of the search and of what is fetched.
func sayings() map[string]api.Command {
	marked := api.FlagSeen | api.FlagDeleted
	return map[string]api.Command{
		"CAPABILITY": {Kind: api.CmdCapability}, "NOOP": {Kind: api.CmdNoop}, "CHECK": {Kind: api.CmdCheck},
		"LOGOUT": {Kind: api.CmdLogout}, "CLOSE": {Kind: api.CmdClose}, "EXPUNGE": {Kind: api.CmdExpunge},
		"LOGIN u p": login("u", "p"), `LOGIN "u v" "p\"q"`: login("u v", `p"q`), "LOGIN {3}\r\nu\r\n {0}\n": login("u\r\n", ""),
		`LOGIN "" "\\"`: login("", `\`), "LOGIN LOGIN uid": login("LOGIN", "uid"), "LOGIN {1+}\r\n\xff *": login("\xff", "*"),
		"SELECT INBOX": named(api.CmdSelect, "INBOX"), `SELECT "in box"`: named(api.CmdSelect, "in box"), `SELECT ""`: named(api.CmdSelect, ""),
		"EXAMINE inbox": named(api.CmdExamine, "inbox"), "EXAMINE {2}\na\n": named(api.CmdExamine, "a\n"),
		`APPEND INBOX "hi"`: come("INBOX", 0, "hi"), "APPEND INBOX {2}\r\nhi": come("INBOX", 0, "hi"), `APPEND "a b" ""`: come("a b", 0, ""),
		"APPEND {1+}\na {4+}\nA:\n\n": come("a", 0, "A:\n\n"),
		`APPEND INBOX () "hi"`:        come("INBOX", 0, "hi"), `APPEND INBOX (\Seen) "hi"`: come("INBOX", api.FlagSeen, "hi"),
		`APPEND INBOX (\Seen \Seen \seen) "hi"`:                              come("INBOX", api.FlagSeen, "hi"),
		`APPEND INBOX (\Draft \Deleted \Flagged \Answered \Seen) "(\\Seen)"`: come("INBOX", api.FlagAll, `(\Seen)`),
		`APPEND INBOX "` + told + `" "hi"`:                                   comeAt("INBOX", 0, moment, "hi"),
		`APPEND INBOX "` + told + `"`:                                        come("INBOX", 0, told),
		`APPEND INBOX "` + told + `" "` + told + `"`:                         comeAt("INBOX", 0, moment, told),
		`APPEND INBOX (\Seen \Deleted) "` + told + "\" {2}\r\nhi":            comeAt("INBOX", marked, moment, "hi"),
		"APPEND INBOX {26}\r\n" + told + ` "hi"`:                             comeAt("INBOX", 0, moment, "hi"),
		`APPEND INBOX " 1-Jan-1970 00:00:00 +0000" "hi"`:                     comeAt("INBOX", 0, api.Time{}, "hi"),
		`APPEND INBOX "01-Jan-0001 23:59:59 -9959" "hi"`:                     comeAt("INBOX", 0, api.Time{Day: api.MinDay, Second: 86399, Zone: -5999}, "hi"),
		`APPEND INBOX "31-dec-9999 00:00:00 +9959" "hi"`:                     comeAt("INBOX", 0, api.Time{Day: api.MaxDay, Zone: 5999}, "hi"),
		`STORE 1:3 FLAGS (\Seen \Deleted)`:                                   store(some, api.ChangeSet, false, marked),
		`STORE 1:3 FLAGS \Seen \Deleted`:                                     store(some, api.ChangeSet, false, marked),
		`STORE 1:3 +FLAGS (\Seen)`:                                           store(some, api.ChangeAdd, false, api.FlagSeen),
		`STORE 1:3 -FLAGS \Flagged`:                                          store(some, api.ChangeRemove, false, api.FlagFlagged),
		`STORE 1:3 FLAGS.SILENT (\Answered)`:                                 store(some, api.ChangeSet, true, api.FlagAnswered),
		`STORE 1:3 +FLAGS.SILENT \Draft`:                                     store(some, api.ChangeAdd, true, api.FlagDraft),
		`STORE 1:3 -FLAGS.SILENT (\Draft \Draft)`:                            store(some, api.ChangeRemove, true, api.FlagDraft),
		`STORE 1:3 FLAGS ()`:                                                 store(some, api.ChangeSet, false, 0),
		`STORE 1:3 +FLAGS.SILENT ()`:                                         store(some, api.ChangeAdd, true, 0),
		`STORE 1:3 FLAGS \Seen \Seen`:                                        store(some, api.ChangeSet, false, api.FlagSeen),
		`STORE 4,*:2,* FLAGS \Seen`:                                          store(spans(4, 4, 0, 2, 0, 0), api.ChangeSet, false, api.FlagSeen),
		`UID STORE 1:3 +FLAGS.SILENT (\Seen)`:                                uid(store(some, api.ChangeAdd, true, api.FlagSeen)),
		`UID STORE 4294967295 FLAGS \Seen`:                                   uid(store(spans(math.MaxUint32, math.MaxUint32), api.ChangeSet, false, api.FlagSeen)),
		"UID EXPUNGE 1:3":                                                    uid(api.Command{Kind: api.CmdExpunge, Set: some}),
		"UID EXPUNGE *":                                                      uid(api.Command{Kind: api.CmdExpunge, Set: spans(0, 0)}),
	}
}

// fetches are those of each item, alone and within brackets.
func fetches() map[string]api.Command {
	l := map[string]api.Command{
		"FETCH 1:3 FAST": fetch(some, fast), "UID FETCH 1:3 FAST": uid(fetch(some, fast|api.FetchUid)),
		"FETCH 2 (FLAGS UID)":                                                         fetch(spans(2, 2), api.FetchFlags|api.FetchUid),
		"FETCH 2 (UID FLAGS UID)":                                                     fetch(spans(2, 2), api.FetchFlags|api.FetchUid),
		"FETCH 2 (FLAGS BODY[HEADER])":                                                fetch(spans(2, 2), api.FetchFlags|api.FetchHead|api.FetchSeen),
		"FETCH 2 (BODY[] BODY.PEEK[])":                                                fetch(spans(2, 2), api.FetchBody|api.FetchSeen),
		"FETCH 2 (BODY.PEEK[TEXT] BODY[HEADER])":                                      fetch(spans(2, 2), api.FetchText|api.FetchHead|api.FetchSeen),
		"FETCH 2 (BODY.PEEK[] BODY.PEEK[TEXT])":                                       fetch(spans(2, 2), api.FetchBody|api.FetchText),
		"FETCH 2,3,* (INTERNALDATE RFC822.SIZE FLAGS)":                                fetch(spans(2, 2, 3, 3, 0, 0), fast),
		"FETCH 2 (FLAGS UID INTERNALDATE RFC822.SIZE BODY[] BODY[HEADER] BODY[TEXT])": fetch(spans(2, 2), api.FetchAll),
	}
	for word, items := range map[string]api.Fetch{
		"FLAGS": api.FetchFlags, "UID": api.FetchUid, "INTERNALDATE": api.FetchInner, "RFC822.SIZE": api.FetchSize,
		"BODY[]": api.FetchBody | api.FetchSeen, "BODY[HEADER]": api.FetchHead | api.FetchSeen, "BODY[TEXT]": api.FetchText | api.FetchSeen,
		"BODY.PEEK[]": api.FetchBody, "BODY.PEEK[HEADER]": api.FetchHead, "BODY.PEEK[TEXT]": api.FetchText,
	} {
		l["FETCH 1:3 "+word] = fetch(some, items)
		l["FETCH 1:3 ("+word+")"] = fetch(some, items)
		l["UID FETCH 1:3 "+word] = uid(fetch(some, items|api.FetchUid))
		l["UID FETCH 1:3 ( "+word+" )"] = uid(fetch(some, items|api.FetchUid))
	}
	return l
}

// searches are those with and without what may stand ahead of a search's words.
func searches() map[string]api.Command {
	found := and(text("a"), seen)
	return map[string]api.Command{
		"SEARCH ALL": search(every), "SEARCH (ALL)": search(every), "UID SEARCH ALL": uid(search(every)),
		`SEARCH TEXT "A" SEEN`:                           search(found),
		`SEARCH 1:3 UID 1:3`:                             search(and(api.Key{Kind: api.KeyPlaces, Set: some}, api.Key{Kind: api.KeyUids, Set: some})),
		"SEARCH NOT SEEN":                                search(api.Key{Kind: api.KeyNot, Kids: []api.Key{seen}}),
		"SEARCH RETURN () ALL":                           wanted(api.WantAll, every),
		"SEARCH RETURN (ALL) ALL":                        wanted(api.WantAll, every),
		"SEARCH RETURN (MIN) ALL":                        wanted(api.WantMin, every),
		"SEARCH RETURN (MAX) ALL":                        wanted(api.WantMax, every),
		"SEARCH RETURN (COUNT) ALL":                      wanted(api.WantCount, every),
		"SEARCH RETURN (COUNT COUNT MAX) ALL":            wanted(api.WantCount|api.WantMax, every),
		"SEARCH RETURN (MIN MAX ALL COUNT) (ALL)":        wanted(api.WantAny, every),
		"UID SEARCH RETURN (MIN) SEEN":                   uid(wanted(api.WantMin, seen)),
		"SEARCH CHARSET utf-8 ALL":                       search(every),
		`SEARCH CHARSET "US-ASCII" TEXT a SEEN`:          search(found),
		"SEARCH CHARSET {6}\r\nlatin1 ALL":               search(every),
		"SEARCH RETURN (COUNT) CHARSET utf8 TEXT a":      wanted(api.WantCount, text("a")),
		"UID SEARCH RETURN () CHARSET cp1252 SEEN":       uid(wanted(api.WantAll, seen)),
		"SEARCH TEXT {1}\r\n\xe9":                        search(text("\ufffd")),
		"SEARCH CHARSET us-ascii TEXT {1}\r\n\xe9":       search(text("\ufffd")),
		"SEARCH CHARSET latin1 TEXT {1}\r\n\xc9":         search(text("\u00e9")),
		"SEARCH CHARSET latin9 TEXT {1}\r\n\xa4":         search(text("\u20ac")),
		"SEARCH CHARSET windows-1252 TEXT {1}\r\n\x80":   search(text("\u20ac")),
		"SEARCH CHARSET utf-8 TEXT {2}\r\n\xc3\x89":      search(text("\u00e9")),
		"SEARCH TEXT RETURN TEXT CHARSET":                search(and(text("return"), text("charset"))),
		`SEARCH HEADER A "b" FROM c`:                     search(and(api.Key{Kind: api.KeyField, Name: "A", Text: "b"}, api.Key{Kind: api.KeyField, Name: "FROM", Text: "c"})),
		"SEARCH SENTON 5-feb-1996":                       search(api.Key{Kind: api.KeySentOn, Day: 9531}),
		"SEARCH CHARSET CP1252 OR SEEN NOT ALL LARGER 4": search(and(api.Key{Kind: api.KeyOr, Kids: []api.Key{seen, {Kind: api.KeyNot, Kids: []api.Key{every}}}}, api.Key{Kind: api.KeyLarger, N: 4})),
	}
}

// all are the sayings of all kinds.
func all() map[string]api.Command {
	l := sayings()
	maps.Copy(l, fetches())
	maps.Copy(l, searches())
	return l
}

// refused asks that a text is answered by just that.
func refused(t *testing.T, s string, want api.Errno) {
	t.Helper()
	if c, errno := cmd.Parse(s); errno != want || !same(c, api.Command{}) {
		t.Errorf("Parse(%.80q) = %.200v, %d, not %d", s, c, errno, want)
	}
}

// parsed asks that a text says just that, and that it is right (29.4).
func parsed(t *testing.T, s string, want api.Command) {
	t.Helper()
	c, errno := cmd.Parse(s)
	if errno != api.OK || !same(c, want) {
		t.Errorf("Parse(%.80q) = %.200v, %d, not %.200v", s, c, errno, want)
	}
	if errno := cmd.Check(c); errno != api.OK {
		t.Errorf("Check of what %.80q says: %d", s, errno)
	}
	if tag := cmd.Tag(s); tag != want.Tag {
		t.Errorf("Tag(%.80q) = %q", s, tag)
	}
}

// 29.2, 29.4
func TestParse(t *testing.T) {
	for words, c := range all() {
		for _, tag := range []string{"a1", "A1", "*", longID, "NOOP", "uid", "]~\\"} {
			c.Tag = tag
			parsed(t, tag+" "+words, c)
			parsed(t, "  "+tag+"   "+words+" ", c)
		}
	}
}

// worded has words made of great letters, or of small ones, each other word: but not what is within quotes, or behind a line's end, and not the tag.
func worded(words string, change func(string) string) string {
	head, literal, _ := strings.Cut(words, "\n")
	parts := strings.Split(head, `"`)
	for i := 0; i < len(parts); i += 2 {
		parts[i] = change(parts[i])
	}
	head = strings.Join(parts, `"`)
	if literal != "" {
		head += "\n" + literal
	}
	return head
}

// 29.5: what the words say with the letters of another size is the same, but for texts that are atoms, and so are none of the command's own words.
func TestLetters(t *testing.T) {
	r := rand.New(rand.NewSource(5))
	mixed := func(s string) string {
		b := []byte(strings.ToLower(s))
		for i, c := range b {
			if r.Intn(2) == 0 && c >= 'a' && c <= 'z' {
				b[i] = c - 'a' + 'A'
			}
		}
		return string(b)
	}
	asked := 0
	for words, c := range all() {
		if c.User != "" || c.Name != "" || c.Key.Name != "" || len(c.Key.Kids) > 0 && c.Key.Kids[0].Name != "" {
			continue
		}
		asked++
		c.Tag = "aB"
		for _, change := range []func(string) string{strings.ToLower, strings.ToUpper, mixed, mixed, mixed} {
			parsed(t, "aB "+worded(words, change), c)
		}
	}
	if asked < 60 {
		t.Errorf("only %d were asked", asked)
	}
	parsed(t, "a login U p", api.Command{Tag: "a", Kind: api.CmdLogin, User: "U", Pass: "p"})
	parsed(t, "a sElEcT iNbOx", api.Command{Tag: "a", Kind: api.CmdSelect, Name: "iNbOx"})
	parsed(t, "a examine A", api.Command{Tag: "a", Kind: api.CmdExamine, Name: "A"})
	parsed(t, `a append A (\SEEN) " 5-FEB-1996 10:00:01 -0130" "B"`, api.Command{Tag: "a", Kind: api.CmdAppend, Name: "A", Flags: api.FlagSeen, Timed: true, Inner: moment, Raw: "B"})
	parsed(t, `a search header Aa "Bb"`, api.Command{Tag: "a", Kind: api.CmdSearch, Key: api.Key{Kind: api.KeyField, Name: "Aa", Text: "bb"}})
}

// 29.2: each kind of command, word by word, with one too few and one too many.
func TestTooFewAndTooMany(t *testing.T) {
	for _, words := range [][]string{
		{"CAPABILITY"}, {"NOOP"}, {"CHECK"}, {"LOGOUT"}, {"CLOSE"}, {"EXPUNGE"},
		{"LOGIN", "u", `"p"`}, {"LOGIN", "{1}\r\nu", "p"}, {"SELECT", "INBOX"}, {"EXAMINE", `"INBOX"`},
		{"APPEND", "INBOX", `"hi"`}, {"APPEND", "INBOX", "{2}\r\nhi"}, {"APPEND", "INBOX", `(\Seen)`, `"hi"`},
		{"APPEND", "INBOX", `()`, `"` + told + `"`, `"hi"`},
		{"STORE", "1", "FLAGS", "()"}, {"STORE", "1:2", "+FLAGS", `\Seen`}, {"STORE", "*", "-FLAGS.SILENT", `(\Seen \Draft)`},
		{"UID", "STORE", "1", "FLAGS", `(\Seen)`},
		{"FETCH", "1", "FLAGS"}, {"FETCH", "1", "FAST"}, {"FETCH", "1", "(UID FLAGS)"}, {"UID", "FETCH", "1", "BODY[]"},
		{"SEARCH", "ALL"}, {"SEARCH", "CHARSET", "utf-8", "ALL"}, {"SEARCH", "RETURN", "()", "ALL"}, {"UID", "SEARCH", "RETURN", "(MIN)", "CHARSET", "utf-8", "ALL"},
		{"UID", "EXPUNGE", "1:3"},
	} {
		s := "a1 " + strings.Join(words, " ")
		if _, errno := cmd.Parse(s); errno != api.OK {
			t.Errorf("Parse(%q): %d", s, errno)
		}
		for many := range words {
			few := "a1 " + strings.Join(words[:many], " ")
			if c, errno := cmd.Parse(few); errno == api.OK && (words[0] != "APPEND" || c.Raw != told) { // a time by itself is a mail
				t.Errorf("Parse(%q) = %v", few, c)
			}
		}
		for _, more := range []string{"x", `"x"`, "{1}\r\nx", "(", ")", "()", "(x)", "1,", "UID"} {
			if words[0] == "SEARCH" && more == "{1}\r\nx" {
				continue
			}
			refused(t, s+" "+more, api.ErrCode)
		}
	}
	for _, s := range []string{"a1 EXPUNGE 1", "a1 UID EXPUNGE", "a1 CLOSE 1", "a1 UID", "a1", "", " ", "a1 ()", "a1 NOOP NOOP", "NOOP", "a1 a1 NOOP", "a1 UID UID FETCH 1 UID"} {
		refused(t, s, api.ErrCode)
	}
}

// 29.2: UID is of some kinds alone.
func TestUid(t *testing.T) {
	for _, words := range []string{"CAPABILITY", "NOOP", "CHECK", "LOGOUT", "CLOSE", "EXPUNGE", "LOGIN u p", "SELECT INBOX", "EXAMINE INBOX", `APPEND INBOX "hi"`} {
		refused(t, "a1 UID "+words, api.ErrCode)
	}
	for _, words := range []string{`STORE 1 FLAGS \Seen`, "FETCH 1 UID", "SEARCH ALL"} {
		one, errno := cmd.Parse("a1 " + words)
		two, errnoToo := cmd.Parse("a1 uid " + words)
		if errno != api.OK || errnoToo != api.OK || one.Uid || !same(uid(one), two) {
			t.Errorf("%q says %v, %d; with UID %v, %d", words, one, errno, two, errnoToo)
		}
	}
}

// 29.2: what is no command's words, with a tag that is one.
func TestParseRefuses(t *testing.T) {
	for _, words := range []string{
		"NOP", "NOOPS", `"NOOP"`, "{4}\r\nNOOP", "(NOOP)", "(", ")", "*", "1", "NO OP", "LOGIN+", "\\NOOP", "AUTHENTICATE PLAIN", "LIST a b", "STATUS",
		"LOGIN u", "LOGIN (u) p", "LOGIN u (p)", "LOGIN (u p)", "LOGIN", "SELECT", "SELECT ()", "SELECT (a)", "EXAMINE ( a", "SELECT a b",
		"APPEND", "APPEND INBOX", "APPEND INBOX hi", `APPEND (\Seen) "hi"`, `APPEND INBOX (\Seen) "\Seen"`, `APPEND (INBOX) "hi"`, `APPEND INBOX \Seen "hi"`, `APPEND INBOX (Seen) "hi"`, `APPEND INBOX (\Recent) "hi"`, `APPEND INBOX ("\\Seen") "hi"`,
		`APPEND INBOX (\Seen)`, `APPEND INBOX ((\Seen)) "hi"`, `APPEND INBOX (\Seen "hi"`, `APPEND INBOX \Seen) "hi"`, `APPEND INBOX () () "hi"`, `APPEND INBOX "hi" ()`, `APPEND INBOX "` + told + `" () "hi"`,
		`APPEND INBOX (\Seen \x) "hi"`, `APPEND INBOX "` + told + `" hi`, `APPEND INBOX "x" "hi"`, `APPEND INBOX "" "hi"`, `APPEND INBOX "5-Feb-1996 10:00:01 -0130" "hi"`, `APPEND INBOX "30-Feb-1996 10:00:01 -0130" "hi"`,
		`APPEND INBOX " 5-Feb-1996 24:00:01 -0130" "hi"`, `APPEND INBOX " 5-Feb-1996 10:00:01 -0160" "hi"`, `APPEND INBOX " 5-Feb-1996" "hi"`, `APPEND INBOX 05-Feb-1996 "hi"`, `APPEND INBOX "` + told + `" "` + told + `" "hi"`,
		"STORE", "STORE 1", "STORE 1 FLAGS", `STORE FLAGS \Seen`, `STORE "1" FLAGS \Seen`, `STORE 1 "FLAGS" \Seen`, `STORE 1 *FLAGS \Seen`, `STORE 1 ++FLAGS \Seen`, `STORE 1 FLAGS+ \Seen`, `STORE 1 FLAG \Seen`,
		`STORE 1 FLAGS.SILENT.SILENT \Seen`, `STORE 1 FLAGS SILENT \Seen`, `STORE 1 .SILENT \Seen`, `STORE 1 FLAGSSILENT \Seen`, `STORE 1 + FLAGS \Seen`, `STORE 1 FLAGS Seen`, `STORE 1 FLAGS \Recent`, `STORE 1 FLAGS \*`, `STORE 1 FLAGS \Seen \x`,
		`STORE 1 FLAGS "\\Seen"`, `STORE 1 FLAGS ("\\Seen")`, `STORE 1 FLAGS (\Seen) \Draft`, `STORE 1 FLAGS \Draft (\Seen)`, `STORE 1 FLAGS ((\Seen))`, `STORE 1 FLAGS (\Seen`, `STORE 1 FLAGS \Seen)`, `STORE 1 FLAGS ()()`, `STORE 1 FLAGS (\Seen (\Draft))`, `STORE 1 (FLAGS) \Seen`,
		"FETCH", "FETCH 1", "FETCH FLAGS", "FETCH 1 ()", "FETCH 1 (", "FETCH 1 FLAGS UID", "FETCH 1 (FAST)", "FETCH 1 (FLAGS FAST)", "FETCH 1 FAST FAST", "FETCH 1 (FLAGS", "FETCH 1 FLAGS)", "FETCH 1 ((FLAGS))", "FETCH 1 (FLAGS) UID", "FETCH 1 (FLAGS)(UID)",
		`FETCH 1 "FLAGS"`, `FETCH 1 ("FLAGS")`, `FETCH "1" FLAGS`, "FETCH 1 BODY", "FETCH 1 BODY[", "FETCH 1 BODY[]<0.5>", "FETCH 1 BODY[MIME]", "FETCH 1 BODY[HEADER.FIELDS]", "FETCH 1 BODY.PEEK", "FETCH 1 BODY.PEEKS[]", "FETCH 1 BODY []", "FETCH 1 RFC822", "FETCH 1 RFC822.SIZES", "FETCH 1 ALL", "FETCH 1 FULL", "FETCH 1 ENVELOPE",
		"FETCH 1 (FLAGS x)", "FETCH 1 .SIZE", "FETCH 1 FLAGS.SILENT", "FETCH 1 \\Seen", "UID FETCH 1 ()", "UID FETCH 1",
		"SEARCH", "SEARCH x", "SEARCH ()", `SEARCH "ALL"`, "SEARCH RETURN", "SEARCH RETURN ALL", "SEARCH RETURN MIN ALL", "SEARCH RETURN () ", "SEARCH RETURN (x) ALL", `SEARCH RETURN ("MIN") ALL`, "SEARCH RETURN ((MIN)) ALL", "SEARCH RETURN (MIN ALL", "SEARCH RETURN (SEEN) ALL", "SEARCH RETURN () RETURN () ALL",
		`SEARCH "RETURN" () ALL`, "SEARCH RETURNS () ALL", "SEARCH CHARSET", "SEARCH CHARSET utf-8", "SEARCH CHARSET (utf-8) ALL", `SEARCH "CHARSET" utf-8 ALL`, "SEARCH CHARSET utf-8 CHARSET utf-8 ALL", "SEARCH CHARSET utf-8 RETURN () ALL", "SEARCH ALL RETURN ()", "SEARCH ALL CHARSET utf-8", "SEARCH CHARSET utf-8 x",
		"SEARCH NOT", "SEARCH OR SEEN", "SEARCH HEADER a:b c", "SEARCH (ALL", "SEARCH 0", "UID SEARCH", "UID SEARCH 1,", "SEARCH UID",
		"UID EXPUNGE x", "UID EXPUNGE (1)", `UID EXPUNGE "1"`, "UID EXPUNGE 1 2", "UID EXPUNGE 0", "EXPUNGE *", "UIDEXPUNGE 1", `"UID" EXPUNGE 1`,
	} {
		refused(t, "a1 "+words, api.ErrCode)
	}
}

// 29.2: sets of all lengths, with each kind that has one.
func TestSets(t *testing.T) {
	for _, ends := range []string{"FETCH % UID", `STORE % FLAGS \Seen`, "UID EXPUNGE %", "UID FETCH % UID", `UID STORE % FLAGS ()`} {
		for _, many := range []int{1, 2, api.MaxSpans - 1, api.MaxSpans} {
			s := "a1 " + strings.Replace(ends, "%", commas(many), 1)
			c, errno := cmd.Parse(s)
			if errno != api.OK || !slices.Equal(c.Set, slices.Repeat(spans(7, 7), many)) || cmd.Check(c) != api.OK {
				t.Errorf("Parse(%.40q) of %d spans: %d spans, %d", s, many, len(c.Set), errno)
			}
		}
		for _, set := range []string{commas(api.MaxSpans + 1), commas(10 * api.MaxSpans), "", "0", "01", "3:3", "1:", ":1", ",", "1,", "4294967296", "1:2:3", "x", "1;2", "(1)", `"1"`, "-1", "**"} {
			refused(t, "a1 "+strings.Replace(ends, "%", set, 1), api.ErrCode)
		}
	}
}

// 29.2: a charset that there is not is told ahead of what is wrong with a search's words, but not of what else is wrong.
func TestCharsets(t *testing.T) {
	for _, words := range []string{
		"SEARCH CHARSET koi8-r ALL", `SEARCH CHARSET "koi8-r" ALL`, `SEARCH CHARSET "" ALL`, "SEARCH CHARSET {1}\r\n\n ALL", "UID SEARCH CHARSET koi8-r ALL", "SEARCH RETURN () CHARSET utf-7 ALL",
		"SEARCH CHARSET koi8-r x", "SEARCH CHARSET koi8-r", "SEARCH CHARSET koi8-r )", "SEARCH CHARSET koi8-r ()", "SEARCH CHARSET koi8-r CHARSET utf-8 ALL", "SEARCH CHARSET CHARSET utf-8 ALL",
		"SEARCH CHARSET koi8-r RETURN () ALL", "SEARCH CHARSET ALL", "SEARCH CHARSET koi8-r " + strings.Repeat("(", 100), "SEARCH CHARSET koi8-r " + strings.Repeat("NOT ", 100) + "ALL",
	} {
		refused(t, "a1 "+words, api.ErrCharset)
		refused(t, "a+1 "+words, api.ErrCode)
		refused(t, "a1 "+words+` "`, api.ErrCode)
	}
	for _, words := range []string{"SEARCH RETURN (x) CHARSET koi8-r ALL", "SEARCH RETURN CHARSET koi8-r ALL", "SEARCH ALL CHARSET koi8-r", "FETCH CHARSET koi8-r ALL", "SEARCH CHARSET (koi8-r) ALL", "UID CHARSET koi8-r ALL"} {
		refused(t, "a1 "+words, api.ErrCode)
	}
	for c := api.CharsetNone + 1; c < api.CharsetCount; c++ {
		name, _ := runes.Name(c)
		l, _ := lex.Tokens("TEXT {2}\r\n\xc3\x89")
		want, _ := key.Parse(c, l...)
		parsed(t, "a1 SEARCH CHARSET "+name+" TEXT {2}\r\n\xc3\x89", api.Command{Tag: "a1", Kind: api.CmdSearch, Key: want})
	}
}

// 29.2: what key and lex have against a text is told as they tell it.
func TestDeepAndLong(t *testing.T) {
	deep := func(levels int) string { return "a1 SEARCH " + strings.Repeat("NOT ", levels) + "ALL" }
	if c, errno := cmd.Parse(deep(api.MaxDepth - 1)); errno != api.OK || cmd.Check(c) != api.OK {
		t.Errorf("of MaxDepth levels: %d", errno)
	}
	refused(t, deep(api.MaxDepth), api.ErrDeep)
	refused(t, "a1 SEARCH RETURN () CHARSET utf-8 "+strings.Repeat("NOT ", api.MaxDepth)+"ALL", api.ErrDeep)
	refused(t, deep(api.MaxDepth)+" x", api.ErrCode)
	keys := func(many int) string { return "a1 SEARCH" + strings.Repeat(" ALL", many) }
	if c, errno := cmd.Parse(keys(api.MaxKeys - 1)); errno != api.OK || cmd.Check(c) != api.OK {
		t.Errorf("of MaxKeys keys: %d", errno)
	}
	refused(t, keys(api.MaxKeys), api.ErrDeep)
	refused(t, "a+1"+keys(api.MaxKeys)[2:], api.ErrCode)
	flags := func(many int) string { return "a1 STORE 1 FLAGS" + strings.Repeat(` \Seen`, many-4) }
	parsed(t, flags(api.MaxTokens), api.Command{Tag: "a1", Kind: api.CmdStore, Set: spans(1, 1), Mode: api.ChangeSet, Flags: api.FlagSeen})
	refused(t, flags(api.MaxTokens+1), api.ErrLong)
	refused(t, strings.Repeat("x ", api.MaxTokens+1), api.ErrLong)
	refused(t, strings.Repeat("x ", api.MaxTokens+1)+`"`, api.ErrCode)
	for _, s := range []string{"a1 NOOP\r\n", "a1\tNOOP", "a1 LOGIN u {3}\r\nab", `a1 LOGIN u "p`, "a1 NOOP\xff", "\x00", `a1 SELECT"x"`} {
		refused(t, s, api.ErrCode)
	}
	long := strings.Repeat("x", 1<<20)
	parsed(t, `a1 APPEND INBOX "`+long+`"`, api.Command{Tag: "a1", Kind: api.CmdAppend, Name: "INBOX", Raw: long})
}

// 29.1
func TestTag(t *testing.T) {
	for s, want := range map[string]string{
		"a1 NOOP": "a1", "a1": "a1", "x1 !! (": "x1", "x1 \"": "x1", "x1\"": "x1", "x1(": "x1", "x1)": "x1", "x1{5}": "x1", "x1{": "x1", "x1\r\n": "x1", "x1\x00": "x1", "x1\x7f": "x1", "x1\xff": "x1", "x1\u00e9": "x1", "x1\ty": "x1",
		"  a1 NOOP": "a1", " a": "a", "*": "*", "* x": "*", "**": "**", "!~": "!~", "a}b]c\\d%e": "a}b]c\\d%e", "aB": "aB", "NOOP": "NOOP", "a1 +": "a1", "a1(+": "a1",
		"": "*", " ": "*", "(": "*", ")a": "*", "\"a\"": "*", "\"": "*", "{1}\r\na": "*", "\ta": "*", "\r\na1 NOOP": "*", "\na": "*", "\x00": "*", "\xff": "*", "\x7fa": "*", "\u00e9": "*", "(a1": "*",
		"+": "*", "a+": "*", "+a": "*", "a+b NOOP": "*", "a+(": "*",
		longID: longID, longID + " NOOP": longID, longID + "(": longID, longID + "\"": longID, "   " + longID + " x": longID,
		longID + "t": "*", longID + "t NOOP": "*", longID + "t(": "*", longID + "+": "*", strings.Repeat("t", 1<<20): "*", longID[1:] + "+": "*", longID[1:] + "+ x": "*", longID + longID[1:] + "+": "*",
		strings.Repeat(" ", 1<<20) + "a": "a", strings.Repeat(" ", 1<<20): "*",
	} {
		if got := cmd.Tag(s); got != want {
			t.Errorf("Tag(%.50q) = %q, not %q", s, got, want)
		}
	}
	for c := range 256 {
		b := string([]byte{byte(c)})
		ofAtom := c >= '!' && c <= '~' && !strings.Contains(`()"{`, b)
		alone, behind := "*", "x"
		if ofAtom && c != '+' {
			alone, behind = b, "x"+b
		}
		if c == '+' {
			behind = "*"
		}
		if got := cmd.Tag(b); got != alone {
			t.Errorf("Tag(%q) = %q", b, got)
		}
		if got := cmd.Tag("x" + b); got != behind {
			t.Errorf("Tag(%q) = %q", "x"+b, got)
		}
	}
}

// 29.2: of a command the tag must be one.
func TestTagsOfCommands(t *testing.T) {
	for _, tag := range []string{"a+b", "+", longID + "t", `"a"`, "{1}\r\na", "(a)", "(", ")", "()", longID + "+"} {
		refused(t, tag+" NOOP", api.ErrCode)
		if errno := cmd.Check(api.Command{Tag: tag, Kind: api.CmdNoop}); errno != api.ErrForm {
			t.Errorf("Check with the tag %q: %d", tag, errno)
		}
	}
	for _, tag := range []string{"", " ", "a b", "a ", " a", "a\r\n", "a\x00", "\u00e9", "a(", strings.Repeat("t", 1<<20)} {
		if errno := cmd.Check(api.Command{Tag: tag, Kind: api.CmdNoop}); errno != api.ErrForm {
			t.Errorf("Check with the tag %.40q: %d", tag, errno)
		}
	}
}

// 29.1
func TestFlags(t *testing.T) {
	words := map[api.Flag]string{api.FlagSeen: `\Seen`, api.FlagAnswered: `\Answered`, api.FlagFlagged: `\Flagged`, api.FlagDeleted: `\Deleted`, api.FlagDraft: `\Draft`}
	order := []api.Flag{api.FlagSeen, api.FlagAnswered, api.FlagFlagged, api.FlagDeleted, api.FlagDraft}
	for n := range 256 {
		var l []string
		for _, f := range order {
			if api.Flag(n)&f != 0 {
				l = append(l, words[f])
			}
		}
		if got, want := cmd.Flags(api.Flag(n)), "("+strings.Join(l, " ")+")"; got != want {
			t.Errorf("Flags(%d) = %q, not %q", n, got, want)
		}
	}
	for f, want := range map[api.Flag]string{0: "()", 3: `(\Seen \Answered)`, api.FlagAll: `(\Seen \Answered \Flagged \Deleted \Draft)`, 255: `(\Seen \Answered \Flagged \Deleted \Draft)`, 224: "()", 240: `(\Draft)`} {
		if got := cmd.Flags(f); got != want {
			t.Errorf("Flags(%d) = %q", f, got)
		}
	}
	for f, word := range words {
		for _, s := range []string{word, strings.ToLower(word), strings.ToUpper(word)} {
			if got, errno := cmd.Flag(s); got != f || errno != api.OK {
				t.Errorf("Flag(%q) = %d, %d", s, got, errno)
			}
		}
		for _, s := range []string{word[1:], word + " ", " " + word, word + word, word[:len(word)-1], `\` + word, "(" + word + ")", word + "\x00", "/" + word[1:], `"` + word + `"`} {
			if got, errno := cmd.Flag(s); got != 0 || errno != api.ErrCode {
				t.Errorf("Flag(%q) = %d, %d", s, got, errno)
			}
		}
	}
	for _, s := range []string{"", `\`, `\Recent`, `\*`, "\\\u017feen", "\\Seen\xff", "Junk", "()", strings.Repeat(`\Seen`, 1<<18)} { // U+017F is a small s elsewhere
		if got, errno := cmd.Flag(s); got != 0 || errno != api.ErrCode {
			t.Errorf("Flag(%.40q) = %d, %d", s, got, errno)
		}
	}
}

// ordinary tells a right command of each kind, with all that the kind may have.
func ordinary() map[api.CmdKind]api.Command {
	l := map[api.CmdKind]api.Command{
		api.CmdCapability: {}, api.CmdNoop: {}, api.CmdCheck: {}, api.CmdLogout: {}, api.CmdClose: {},
		api.CmdLogin:  login("u", "p"),
		api.CmdSelect: named(0, "INBOX"), api.CmdExamine: named(0, "INBOX"),
		api.CmdExpunge: uid(api.Command{Set: some}),
		api.CmdAppend:  comeAt("INBOX", api.FlagSeen, moment, "hi"),
		api.CmdStore:   uid(store(some, api.ChangeAdd, true, api.FlagSeen)),
		api.CmdFetch:   uid(fetch(some, api.FetchAll)),
		api.CmdSearch:  uid(wanted(api.WantCount, seen)),
	}
	for kind, c := range l {
		c.Tag, c.Kind = "a1", kind
		l[kind] = c
	}
	return l
}

// fieldsOf tells which fields a kind has, beside its tag and itself.
func fieldsOf(kind api.CmdKind) string {
	switch kind {
	case api.CmdLogin:
		return "User Pass"
	case api.CmdSelect, api.CmdExamine:
		return "Name"
	case api.CmdAppend:
		return "Name Flags Timed Inner Raw"
	case api.CmdStore:
		return "Uid Set Mode Silent Flags"
	case api.CmdFetch:
		return "Uid Set Items"
	case api.CmdSearch:
		return "Uid Wanted Want Key"
	case api.CmdExpunge:
		return "Uid Set"
	}
	return ""
}

// filled are right values of all fields that not all kinds have, none of them zero.
func filled() map[string]any {
	return map[string]any{
		"Uid": true, "User": "u", "Pass": "p", "Name": "n", "Set": some, "Mode": api.ChangeSet, "Silent": true, "Flags": api.FlagSeen,
		"Timed": true, "Inner": moment, "Raw": "r", "Items": api.FetchFlags, "Wanted": true, "Want": api.WantAll, "Key": seen,
	}
}

// with sets one field of a command, or makes it zero (nil).
func with(c api.Command, field string, value any) api.Command {
	f := reflect.ValueOf(&c).Elem().FieldByName(field)
	if value == nil {
		f.SetZero()
	} else {
		f.Set(reflect.ValueOf(value))
	}
	return c
}

// checked asks whether a command is right.
func checked(t *testing.T, what string, c api.Command, want api.Errno) {
	t.Helper()
	if errno := cmd.Check(c); errno != want {
		t.Errorf("Check of %s: %d, not %d", what, errno, want) // the command may have a key that has no end
	}
}

// 29.1: each field, with each kind.
func TestCheckFields(t *testing.T) {
	values := filled()
	if many := reflect.TypeFor[api.Command]().NumField(); many != len(values)+2 {
		t.Fatalf("%d fields, not %d", many, len(values)+2)
	}
	if many := len(ordinary()); many != int(api.CmdCount)-1 {
		t.Fatalf("%d kinds", many)
	}
	for kind, c := range ordinary() {
		checked(t, fmt.Sprint("kind ", kind), c, api.OK)
		checked(t, fmt.Sprint("kind ", kind, " without a tag"), with(c, "Tag", nil), api.ErrForm)
		for field, value := range values {
			if !slices.Contains(strings.Fields(fieldsOf(kind)), field) {
				checked(t, fmt.Sprint("kind ", kind, " with ", field), with(c, field, value), api.ErrForm)
			}
		}
	}
	for kind, missing := range map[api.CmdKind]string{api.CmdExpunge: "Uid Set", api.CmdAppend: "Timed", api.CmdStore: "Set Mode", api.CmdFetch: "Set Items", api.CmdSearch: "Wanted Want Key"} {
		for _, field := range strings.Fields(missing) {
			checked(t, fmt.Sprint("kind ", kind, " without ", field), with(ordinary()[kind], field, nil), api.ErrForm)
		}
	}
	for kind, may := range map[api.CmdKind]string{api.CmdLogin: "User Pass", api.CmdSelect: "Name", api.CmdExamine: "Name", api.CmdAppend: "Name Flags Inner Raw", api.CmdStore: "Uid Silent Flags", api.CmdFetch: "Uid", api.CmdSearch: "Uid"} {
		for _, field := range strings.Fields(may) {
			checked(t, fmt.Sprint("kind ", kind, " with ", field, " zero"), with(ordinary()[kind], field, nil), api.OK)
		}
	}
	for _, kind := range []api.CmdKind{api.CmdNone, api.CmdCount, api.CmdCount + 1, 255} {
		checked(t, fmt.Sprint("kind ", kind), api.Command{Tag: "a", Kind: kind}, api.ErrForm)
	}
	checked(t, "nothing", api.Command{}, api.ErrForm)
	checked(t, "empty lists", api.Command{Tag: "a", Kind: api.CmdNoop, Set: []api.Span{}, Key: api.Key{Set: []api.Span{}, Kids: []api.Key{}}}, api.OK)
	checked(t, "an expunge with an empty list", api.Command{Tag: "a", Kind: api.CmdExpunge, Set: []api.Span{}}, api.OK)
}

// 29.1: of a command that searches nothing each field of the key is zero.
func TestCheckKeys(t *testing.T) {
	for i, value := range []any{api.KeyAll, api.FlagSeen, "n", "t", 1, uint32(1), some, []api.Key{every}} {
		var k api.Key
		reflect.ValueOf(&k).Elem().Field(i).Set(reflect.ValueOf(value))
		for kind, c := range ordinary() {
			if kind != api.CmdSearch {
				checked(t, fmt.Sprint("kind ", kind, " with a field of a key"), with(c, "Key", k), api.ErrForm)
			}
		}
	}
	if many := reflect.TypeFor[api.Key]().NumField(); many != 8 {
		t.Errorf("%d fields of a key", many)
	}
	c := ordinary()[api.CmdSearch]
	within := seen
	for range api.MaxDepth - 1 {
		within = api.Key{Kind: api.KeyNot, Kids: []api.Key{within}}
	}
	checked(t, "a search as deep as may be", with(c, "Key", within), api.OK)
	checked(t, "a search too deep", with(c, "Key", api.Key{Kind: api.KeyNot, Kids: []api.Key{within}}), api.ErrForm)
	looped := []api.Key{{Kind: api.KeyNot}}
	looped[0].Kids = looped
	for what, k := range map[string]api.Key{
		"no key": {}, "a key of a kind that there is not": {Kind: api.KeyCount}, "a key that has not what it needs": {Kind: api.KeyNot}, "a key with what it has not": {Kind: api.KeyAll, N: 1},
		"a key within itself": looped[0], "a kid that is not right": and(every, api.Key{}), "a key that is wanted in no words": {Kind: api.KeyField, Name: "a b"},
	} {
		checked(t, what, with(c, "Key", k), api.ErrForm)
	}
}

// 29.1: the values that a field may have.
func TestCheckValues(t *testing.T) {
	of := ordinary()
	for n := range 256 {
		is := func(right bool) api.Errno {
			if right {
				return api.OK
			}
			return api.ErrForm
		}
		f, m, w, i := api.Flag(n), api.ChangeKind(n), api.Want(n), api.Fetch(n)
		checked(t, "flags of a mail", with(of[api.CmdAppend], "Flags", f), is(f <= api.FlagAll))
		checked(t, "flags of a mark", with(of[api.CmdStore], "Flags", f), is(f <= api.FlagAll))
		checked(t, "a mode", with(of[api.CmdStore], "Mode", m), is(m == api.ChangeSet || m == api.ChangeAdd || m == api.ChangeRemove))
		checked(t, "wants", with(of[api.CmdSearch], "Want", w), is(w != 0 && w <= api.WantAny))
		checked(t, "wants of what wants none", with(with(of[api.CmdSearch], "Wanted", nil), "Want", w), is(w == 0))
		right := i != 0 && (i&api.FetchSeen == 0 || i&after != 0)
		checked(t, "items", with(with(of[api.CmdFetch], "Uid", nil), "Items", i), is(right))
		checked(t, "items by number", with(of[api.CmdFetch], "Items", i), is(right && i&api.FetchUid != 0))
	}
	for _, kind := range []api.CmdKind{api.CmdExpunge, api.CmdStore, api.CmdFetch} {
		for _, many := range []int{1, 2, api.MaxSpans} {
			checked(t, "so many spans", with(of[kind], "Set", slices.Repeat(spans(9, 2), many)), api.OK)
		}
		for _, many := range []int{0, api.MaxSpans + 1, 1 << 20} {
			checked(t, "so many spans, that are too many", with(of[kind], "Set", make([]api.Span, many)), api.ErrForm)
		}
		checked(t, "any ends", with(of[kind], "Set", spans(0, 0, 0, 1, math.MaxUint32, 0, 5, 5)), api.OK)
	}
	for _, x := range []api.Time{{}, {Day: api.MinDay, Zone: -5999}, {Day: api.MaxDay, Second: 86399, Zone: 5999}, {Day: -1, Second: 1, Zone: 1}} {
		checked(t, "a time that is right", with(of[api.CmdAppend], "Inner", x), api.OK)
	}
	for _, x := range []api.Time{{Day: api.MinDay - 1}, {Day: api.MaxDay + 1}, {Second: -1}, {Second: 86400}, {Zone: -6000}, {Zone: 6000}, {Day: math.MinInt}, {Second: math.MaxInt}, {Zone: math.MinInt}} {
		checked(t, "a time that is not right", with(of[api.CmdAppend], "Inner", x), api.ErrForm)
	}
	for _, x := range []api.Time{{Day: 1}, {Second: 1}, {Zone: 1}, {Day: -1}, moment, {Second: -1}} {
		checked(t, "a time of what is not timed", with(with(of[api.CmdAppend], "Timed", nil), "Inner", x), api.ErrForm)
	}
	checked(t, "neither number nor set", api.Command{Tag: "a", Kind: api.CmdExpunge}, api.OK)
	for _, s := range []string{"", "\x00", "\xff\r\n", strings.Repeat("x", 1<<20)} {
		checked(t, "any bytes of a mail", with(of[api.CmdAppend], "Raw", s), api.OK)
		checked(t, "any name", with(of[api.CmdSelect], "Name", s), api.OK)
		checked(t, "any user", with(of[api.CmdLogin], "User", s), api.OK)
	}
}

// shares tells whether two texts have memory together.
func shares(a, b string) bool {
	if len(a) == 0 || len(b) == 0 {
		return false
	}
	x, y := uintptr(unsafe.Pointer(unsafe.StringData(a))), uintptr(unsafe.Pointer(unsafe.StringData(b)))
	return x < y+uintptr(len(b)) && y < x+uintptr(len(a))
}

// keyTexts are all of a key, its lists' memory as texts among them.
func keyTexts(k api.Key) []string {
	l := []string{k.Name, k.Text, listText(k.Set), listText(k.Kids)}
	for _, kid := range k.Kids {
		l = append(l, keyTexts(kid)...)
	}
	return l
}

// listText tells a list's memory as a text.
func listText[T any](l []T) string {
	var x T
	if len(l) == 0 {
		return ""
	}
	return unsafe.String((*byte)(unsafe.Pointer(&l[0])), len(l)*int(unsafe.Sizeof(x)))
}

// texts are all of a command.
func texts(c api.Command) []string {
	return append(keyTexts(c.Key), c.Tag, c.User, c.Pass, c.Name, c.Raw, listText(c.Set))
}

// 29.3
func TestAnswersAreNewMemory(t *testing.T) {
	for words := range all() {
		s := strings.Clone("a1 " + words)
		one, _ := cmd.Parse(s)
		two, _ := cmd.Parse(s)
		l := append([]string{s}, texts(one)...)
		l = append(l, texts(two)...)
		for i, a := range l {
			for _, b := range l[:i] {
				if shares(a, b) {
					t.Errorf("of %q there is memory that is shared: %.40q, %.40q", words, a, b)
				}
			}
		}
	}
	for _, s := range []string{"a1 NOOP", "a1", "(", ""} {
		if x, y := cmd.Tag(s), cmd.Tag(s); shares(x, y) || shares(x, s) {
			t.Errorf("Tag(%q) shares its memory", s)
		}
	}
	for f := range api.FlagAll + 1 {
		if x, y := cmd.Flags(f), cmd.Flags(f); shares(x, y) {
			t.Errorf("Flags(%d) shares its memory", f)
		}
	}
	for kind, c := range ordinary() {
		given := plain(c)
		if cmd.Check(c); !same(c, given) {
			t.Errorf("kind %d is changed: %v", kind, c)
		}
	}
}

// example 1
func TestExample(t *testing.T) {
	parsed(t, `a1 UID STORE 1:3 +FLAGS.SILENT (\Seen)`, api.Command{Tag: "a1", Kind: api.CmdStore, Uid: true, Set: some, Mode: api.ChangeAdd, Silent: true, Flags: api.FlagSeen})
}

// What the shapes of commands are made of.
const (
	ofText  = `([^ ()"]+|"[^"]*")`
	ofFlag  = `\\(?:seen|answered|flagged|deleted|draft)`
	ofFlags = `\((?:` + ofFlag + `(?: ` + ofFlag + `)*)?\)`
	ofItem  = `(?:flags|uid|internaldate|rfc822\.size|body(?:\.peek)?\[(?:header|text)?\])`
)

// shapes has commands' words as one expression a kind.
var shapes = map[api.CmdKind]*regexp.Regexp{
	api.CmdCapability: regexp.MustCompile(`(?i)^(\S+) capability$`),
	api.CmdNoop:       regexp.MustCompile(`(?i)^(\S+) noop$`),
	api.CmdCheck:      regexp.MustCompile(`(?i)^(\S+) check$`),
	api.CmdLogout:     regexp.MustCompile(`(?i)^(\S+) logout$`),
	api.CmdClose:      regexp.MustCompile(`(?i)^(\S+) close$`),
	api.CmdExpunge:    regexp.MustCompile(`(?i)^(\S+) (?:expunge|(uid) expunge ([\d:*,]+))$`),
	api.CmdLogin:      regexp.MustCompile(`(?i)^(\S+) login ` + ofText + ` ` + ofText + `$`),
	api.CmdSelect:     regexp.MustCompile(`(?i)^(\S+) select ` + ofText + `$`),
	api.CmdExamine:    regexp.MustCompile(`(?i)^(\S+) examine ` + ofText + `$`),
	api.CmdAppend:     regexp.MustCompile(`(?i)^(\S+) append ` + ofText + `(?: (` + ofFlags + `))?(?: "([^"]*)")? "([^"]*)"$`),
	api.CmdStore:      regexp.MustCompile(`(?i)^(\S+) (uid )?store ([\d:*,]+) ([+-]?)flags(\.silent)? (` + ofFlags + `|` + ofFlag + `(?: ` + ofFlag + `)*)$`),
	api.CmdFetch:      regexp.MustCompile(`(?i)^(\S+) (uid )?fetch ([\d:*,]+) (fast|` + ofItem + `|\(` + ofItem + `(?: ` + ofItem + `)*\))$`),
	api.CmdSearch:     regexp.MustCompile(`(?i)^(\S+) (uid )?search( return \(((?:(?:min|max|all|count) ?)*)\))?(?: charset ` + ofText + `)?([ )].*|)$`),
}

// bits adds those of a table whose words a text has.
func bits[T ~uint8](s string, table map[string]T) T {
	var all T
	for _, word := range strings.Fields(strings.ToLower(strings.Trim(s, "()"))) {
		all |= table[word]
	}
	return all
}

func flagBits(s string) api.Flag {
	return bits(s, map[string]api.Flag{`\seen`: 1, `\answered`: 2, `\flagged`: 4, `\deleted`: 8, `\draft`: 16})
}

func itemBits(s string) api.Fetch {
	return bits(s, map[string]api.Fetch{"flags": 1, "uid": 2, "internaldate": 4, "rfc822.size": 8, "fast": 13, "body[]": 16 | 128, "body[header]": 32 | 128, "body[text]": 64 | 128, "body.peek[]": 16, "body.peek[header]": 32, "body.peek[text]": 64})
}

func wantBits(s string) api.Want {
	return bits(s, map[string]api.Want{"min": 1, "max": 2, "all": 4, "count": 8})
}

// model tells what a text says that has one space between its words, none beside brackets, and strings without backslashes.
func model(s string) (api.Command, api.Errno) {
	for kind, shape := range shapes {
		x := shape.FindStringSubmatch(s)
		if x == nil || len(x[1]) > api.MaxTag || strings.ContainsAny(x[1], `+()"{`) {
			continue
		}
		c := api.Command{Tag: x[1], Kind: kind}
		bare := func(i int) string { return strings.Trim(x[i], `"`) }
		errno := api.OK
		switch kind {
		case api.CmdLogin:
			c.User, c.Pass = bare(2), bare(3)
		case api.CmdSelect, api.CmdExamine:
			c.Name = bare(2)
		case api.CmdAppend:
			c.Name, c.Flags, c.Timed, c.Raw = bare(2), flagBits(x[3]), strings.Count(s[:len(s)-len(x[5])-2], `"`)-strings.Count(x[2], `"`) > 0, x[5]
			if c.Timed {
				c.Inner, errno = date.ParseTime(x[4])
			}
		case api.CmdExpunge, api.CmdStore, api.CmdFetch:
			c.Uid = x[2] != ""
			if x[3] != "" {
				c.Set, errno = nset.Parse(x[3])
			}
			if kind == api.CmdStore {
				c.Mode, c.Silent, c.Flags = map[string]api.ChangeKind{"": api.ChangeSet, "+": api.ChangeAdd, "-": api.ChangeRemove}[x[4]], x[5] != "", flagBits(x[6])
			}
			if kind == api.CmdFetch {
				c.Items = itemBits(x[4])
				if c.Uid {
					c.Items |= api.FetchUid
				}
			}
		case api.CmdSearch:
			c.Uid, c.Wanted, c.Want = x[2] != "", x[3] != "", wantBits(x[4])
			return modelSearch(c, x[5], x[6])
		}
		if errno != api.OK {
			return api.Command{}, api.ErrCode
		}
		return c, api.OK
	}
	return api.Command{}, api.ErrCode
}

// modelSearch is of what stands behind the wants of a search.
func modelSearch(c api.Command, name, words string) (api.Command, api.Errno) {
	charset, errno := api.CharsetAscii, api.OK
	if c.Wanted && c.Want == 0 {
		c.Want = api.WantAll
	}
	if name != "" {
		charset, errno = runes.Named(strings.Trim(name, `"`))
	}
	if errno == api.OK {
		l, _ := lex.Tokens(words)
		c.Key, errno = key.Parse(charset, l...)
	}
	if errno != api.OK {
		return api.Command{}, errno
	}
	return c, api.OK
}

// pieces are words of commands, right and wrong.
var pieces = strings.Fields(`a1 x+ NOOP capability CHECK LOGOUT CLOSE EXPUNGE Login SELECT examine APPEND STORE FETCH SEARCH UID uid RETURN CHARSET utf-8 latin1 koi8-r ALL SEEN NOT OR TEXT FROM
	1 1:3 * 2,5:* 0 3:3 FLAGS +FLAGS -flags FLAGS.SILENT +flags.silent -FLAGS.SILENT \Seen \deleted \Draft \Answered \Flagged \Recent FAST INTERNALDATE rfc822.size BODY[] BODY.PEEK[TEXT] body[header] BODY[TEXT] BODY.PEEK[] BODY
	MIN max COUNT ( ) ( ) () "" "x" "INBOX" INBOX inbox "FLAGS" "1"`)

// spaced puts words together as the model needs them.
func spaced(words []string) string {
	s := strings.Join(words, " ")
	return strings.ReplaceAll(strings.ReplaceAll(s, "( ", "("), " )", ")")
}

// wordsOf takes a saying apart.
func wordsOf(s string) []string {
	return regexp.MustCompile(`"[^"]*"|[()]|[^ ()"]+`).FindAllString(s, -1)
}

// 29.2, 29.4, P1 to P4: sayings in which words are left out, put in, and put in another place are answered as the model does.
func TestAnyWords(t *testing.T) {
	ahead := runtime.NumGoroutine()
	r := rand.New(rand.NewSource(29))
	var begin [][]string
	for words := range all() {
		if !strings.ContainsAny(words, "\\\n{") || strings.Contains(words, " FLAGS ") {
			begin = append(begin, wordsOf("a1 "+words))
		}
	}
	slices.SortFunc(begin, slices.Compare)
	right := map[api.CmdKind]int{}
	for range 200000 {
		words := slices.Clone(begin[r.Intn(len(begin))])
		for range r.Intn(4) {
			at := r.Intn(len(words) + 1)
			switch from := begin[r.Intn(len(begin))]; {
			case r.Intn(3) == 0:
				words = slices.Insert(words, at, pieces[r.Intn(len(pieces))])
			case at < len(words) && r.Intn(2) == 0:
				words = slices.Delete(words, at, at+1)
			case at < len(words):
				words[at] = from[r.Intn(len(from))]
			}
		}
		s := spaced(words)
		want, errno := model(s)
		if _, wrong := lex.Tokens(s); wrong != api.OK {
			want, errno = api.Command{}, wrong
		}
		c, is := cmd.Parse(s)
		if is != errno || !same(c, want) {
			t.Fatalf("Parse(%q) = %v, %d, not %v, %d", s, c, is, want, errno)
		}
		if is == api.OK {
			right[c.Kind]++
			checked(t, s, c, api.OK)
		}
	}
	for kind := api.CmdNone + 1; kind < api.CmdCount; kind++ {
		if right[kind] == 0 {
			t.Errorf("kind %d was never right", kind)
		}
	}
	if behind := runtime.NumGoroutine(); behind > ahead { // fewer, if that of an earlier test was just ending
		t.Errorf("%d goroutines ahead, %d behind", ahead, behind)
	}
}

// P1: any bytes are answered, and what they say, if anything, is right.
func TestAnyBytes(t *testing.T) {
	r := rand.New(rand.NewSource(30))
	bytes := []string{" ", " ", "(", ")", "\"", "\\", "{1}\r\n", "{2+}\n", "{", "}", "\r\n", "\x00", "\xff", "+", "*", "\u00e9"}
	for range 100000 {
		var b strings.Builder
		for range r.Intn(10) {
			if r.Intn(2) == 0 {
				b.WriteString(bytes[r.Intn(len(bytes))])
			} else {
				b.WriteString(pieces[r.Intn(len(pieces))] + " ")
			}
		}
		s := b.String()
		c, errno := cmd.Parse(s)
		tag := cmd.Tag(s)
		if errno == api.OK && (cmd.Check(c) != api.OK || tag != c.Tag) || errno != api.OK && !same(c, api.Command{}) {
			t.Fatalf("Parse(%q) = %v, %d, with the tag %q", s, c, errno, tag)
		}
		if tag != "*" && !strings.HasPrefix(strings.TrimLeft(s, " "), tag) {
			t.Fatalf("Tag(%q) = %q", s, tag)
		}
		cmd.Flag(s)
	}
	for _, s := range []string{"a ", "(", "a1 SEARCH ", "a1 STORE 1 FLAGS (", `\Seen `, "NOT ", "{1}\r\n", "\"", "1,"} {
		many := strings.Repeat(s, 1<<16)
		for _, begin := range []string{"", "a1 SEARCH ", "a1 FETCH ", "a1 STORE 1 FLAGS ", "a1 SEARCH CHARSET "} {
			cmd.Parse(begin + many)
			cmd.Tag(begin + many)
		}
	}
}
