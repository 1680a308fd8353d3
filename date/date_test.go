package date_test

import (
	"fmt"
	"math"
	"math/rand"
	"regexp"
	"runtime"
	"strconv"
	"strings"
	"testing"
	"time"
	"unsafe"

	"missive/api"
	"missive/date"
)

// The signatures that the chapter lists.
var (
	_ func(int, int, int) (int, api.Errno) = date.Day
	_ func(int) (int, int, int, api.Errno) = date.Civil
	_ func(int) (int, api.Errno)           = date.Weekday
	_ func(string) (int, api.Errno)        = date.Parse
	_ func(int) (string, api.Errno)        = date.Write
	_ func(string) (api.Time, api.Errno)   = date.ParseTime
	_ func(api.Time) (string, api.Errno)   = date.WriteTime
	_ func(string) (int, api.Errno)        = date.Mail
)

var months = []string{"Jan", "Feb", "Mar", "Apr", "May", "Jun", "Jul", "Aug", "Sep", "Oct", "Nov", "Dec"}

// noNumbers are those of no day.
var noNumbers = []int{api.MinDay - 1, api.MaxDay + 1, api.MinDay - 365, api.MaxDay + 366, 1 << 31, -1 << 31, math.MinInt, math.MaxInt, math.MinInt + 1, math.MaxInt - 1}

// days are such, and their numbers and weekdays.
var days = []struct{ year, month, day, number, weekday int }{
	{1, 1, 1, api.MinDay, 1},
	{1, 1, 2, api.MinDay + 1, 2},
	{1, 12, 31, api.MinDay + 364, 1},
	{2, 1, 1, api.MinDay + 365, 2},
	{4, 12, 31, api.MinDay + 1460, 5},
	{1582, 10, 15, -141427, 5},
	{1900, 1, 1, -25567, 1},
	{1900, 2, 28, -25509, 3},
	{1900, 3, 1, -25508, 4},
	{1969, 12, 31, -1, 3},
	{1970, 1, 1, 0, 4},
	{1970, 1, 2, 1, 5},
	{1970, 12, 31, 364, 4},
	{1972, 2, 29, 789, 2},
	{1996, 2, 5, 9531, 1},
	{2000, 2, 28, 11015, 1},
	{2000, 2, 29, 11016, 2},
	{2000, 3, 1, 11017, 3},
	{2000, 12, 31, 11322, 0},
	{2026, 11, 17, 20774, 2},
	{9999, 12, 30, api.MaxDay - 1, 4},
	{9999, 12, 31, api.MaxDay, 5},
}

// noDays are numbers of which there is no day.
var noDays = [][3]int{
	{0, 1, 1}, {0, 12, 31}, {-1, 1, 1}, {-4, 2, 29}, {10000, 1, 1}, {99999, 1, 1}, {math.MinInt, 1, 1}, {math.MaxInt, 1, 1},
	{1970, 0, 1}, {1970, -1, 1}, {1970, 13, 1}, {1970, math.MinInt, 1}, {1970, math.MaxInt, 1},
	{1970, 1, 0}, {1970, 1, -1}, {1970, 1, 32}, {1970, 1, math.MinInt}, {1970, 1, math.MaxInt},
	{1970, 4, 31}, {1970, 6, 31}, {1970, 9, 31}, {1970, 11, 31}, {1970, 12, 32}, {1970, 2, 30}, {2000, 2, 30},
	{1, 2, 29}, {100, 2, 29}, {1900, 2, 29}, {1970, 2, 29}, {1995, 2, 29}, {2001, 2, 29}, {2100, 2, 29}, {9999, 2, 29},
	{math.MinInt, math.MinInt, math.MinInt}, {math.MaxInt, math.MaxInt, math.MaxInt}, {0, 0, 0},
}

// texts are client's days, and their numbers.
var texts = []struct {
	text   string
	number int
}{
	{"1-Jan-1970", 0},
	{"31-Dec-1969", -1},
	{"5-Feb-1996", 9531},
	{"29-Feb-1996", 9555},
	{"29-Feb-2000", 11016},
	{"9-Nov-2026", 20766},
	{"10-Nov-2026", 20767},
	{"1-Jan-0001", api.MinDay},
	{"31-Dec-9999", api.MaxDay},
	{"1-Mar-0100", -682944},
}

// noTexts are no client's days.
var noTexts = []string{
	"", "-", "--", "1", "1-", "1-Jan", "1-Jan-", "1-Jan-1", "1-Jan-70", "1-Jan-970", "1-Jan-01970", "1-Jan-19700", "1-Jan-197", "1-Jan-1970-", "1-Jan-1970 ", " 1-Jan-1970", "1-Jan-1970\n", "1-Jan-1970 00:00:00 +0000",
	"01-Jan-1970", "05-Feb-1996", "09-Jan-1970", "00-Jan-1970", "0-Jan-1970", "001-Jan-1970", "011-Jan-1970", "111-Jan-1970", "-Jan-1970", "-1-Jan-1970", "+1-Jan-1970", "1 -Jan-1970", " -Jan-1970", "a-Jan-1970", "1a-Jan-1970", "a1-Jan-1970", "1.-Jan-1970", "\x31\x00-Jan-1970", "/-Jan-1970", ":-Jan-1970", "1:-Jan-1970",
	"32-Jan-1970", "99-Jan-1970", "30-Feb-2000", "29-Feb-1900", "29-Feb-2001", "29-Feb-2100", "31-Apr-1970", "31-Jun-1970", "31-Sep-1970", "31-Nov-1970",
	"1-Ja-1970", "1-Janu-1970", "1-January-1970", "1--1970", "1-Jam-1970", "1-01-1970", "1-1-1970", "1-J\xc1n-1970", "1-\xcaan-1970", "1-anF-1970", "1-nFe-1970", "1- Jan-1970", "1-Jan -1970", "1-S\u00e9p-1970", "1-\u017fep-1970", "1-Au\x67\x00-1970",
	"1-Jan-0000", "1-Jan-+970", "1-Jan--970", "1-Jan- 970", "1-Jan-197a", "1-Jan-a970", "1-Jan-1_70", "1-Jan-1970a", "1-Jan-10000",
	"1 Jan 1970", "1-Jan 1970", "1 Jan-1970", "1/Jan/1970", "1Jan1970", "1-Jan1970", "1Jan-1970", "Jan-1-1970", "1970-Jan-1", "1:Jan:1970",
	"\"1-Jan-1970\"", "1-Jan-1970-1-Jan-1970",
}

// times are client's times, as they are written.
var times = []struct {
	text string
	time api.Time
}{
	{"17-Jul-1996 02:44:25 -0700", api.Time{Day: 9694, Second: 9865, Zone: -420}},
	{" 1-Jan-1970 00:00:00 +0000", api.Time{}},
	{"31-Dec-1969 23:59:59 +0000", api.Time{Day: -1, Second: 86399}},
	{" 9-Jan-1970 00:00:01 +0001", api.Time{Day: 8, Second: 1, Zone: 1}},
	{"10-Jan-1970 00:01:00 -0001", api.Time{Day: 9, Second: 60, Zone: -1}},
	{"29-Feb-2000 01:00:00 +0059", api.Time{Day: 11016, Second: 3600, Zone: 59}},
	{" 1-Jan-1970 12:34:56 +0100", api.Time{Second: 45296, Zone: 60}},
	{" 1-Jan-1970 12:34:56 -0059", api.Time{Second: 45296, Zone: -59}},
	{" 1-Jan-1970 09:09:09 +1400", api.Time{Second: 32949, Zone: 840}},
	{" 1-Jan-0001 00:00:00 +9959", api.Time{Day: api.MinDay, Zone: 5999}},
	{"31-Dec-9999 23:59:59 -9959", api.Time{Day: api.MaxDay, Second: 86399, Zone: -5999}},
	{" 1-Jan-0001 23:59:59 -9900", api.Time{Day: api.MinDay, Second: 86399, Zone: -5940}},
}

// otherTimes are client's times in another writing.
var otherTimes = []struct {
	text string
	time api.Time
}{
	{"01-Jan-1970 00:00:00 +0000", api.Time{}},
	{"09-Jan-1970 00:00:00 -0000", api.Time{Day: 8}},
	{" 1-Jan-1970 00:00:00 -0000", api.Time{}},
	{"17-JUL-1996 02:44:25 -0700", api.Time{Day: 9694, Second: 9865, Zone: -420}},
	{"17-jul-1996 02:44:25 -0700", api.Time{Day: 9694, Second: 9865, Zone: -420}},
	{"17-jUl-1996 02:44:25 -0700", api.Time{Day: 9694, Second: 9865, Zone: -420}},
}

// noTimes are no client's times.
var noTimes = []string{
	"", " ", "17-Jul-1996", "17-Jul-1996 ", "17-Jul-1996 02", "17-Jul-1996 02:44", "17-Jul-1996 02:44:25", "17-Jul-1996 02:44:25 ", "17-Jul-1996 02:44:25 -", "17-Jul-1996 02:44:25 -07", "17-Jul-1996 02:44:25 -070", "17-Jul-1996 02:44:25 -07000", "17-Jul-1996 02:44:25 -0700 ", " 17-Jul-1996 02:44:25 -0700", "17-Jul-1996 02:44:25 -0700\n", "\"17-Jul-1996 02:44:25 -0700\"",
	"1-Jan-1970 00:00:00 +0000", "  1-Jan-1970 00:00:00 +0000", "\t1-Jan-1970 00:00:00 +0000", "1 -Jan-1970 00:00:00 +0000", "  -Jan-1970 00:00:00 +0000", "-1-Jan-1970 00:00:00 +0000", "+1-Jan-1970 00:00:00 +0000", "001-Jan-1970 00:00:00 +0000", " 01-Jan-1970 00:00:00 +0000", "a1-Jan-1970 00:00:00 +0000", "1a-Jan-1970 00:00:00 +0000",
	"00-Jan-1970 00:00:00 +0000", " 0-Jan-1970 00:00:00 +0000", "32-Jan-1970 00:00:00 +0000", "29-Feb-1900 00:00:00 +0000", "30-Feb-2000 00:00:00 +0000", "31-Nov-1970 00:00:00 +0000", "17-Jul-0000 02:44:25 -0700",
	"17-Ju-1996 02:44:25 -0700", "17-July-1996 02:44:25 -0700", "17-Jux-1996 02:44:25 -0700", "17-07-1996 02:44:25 -0700", "17-Jul-96 02:44:25 -0700", "17-Jul-996 02:44:25 -0700", "17-Jul-01996 02:44:25 -0700", "17-Jul-19960 02:44:25 -0700", "17 Jul 1996 02:44:25 -0700", "17-Jul 1996 02:44:25 -0700", "17/Jul/1996 02:44:25 -0700",
	"17-Jul-1996  02:44:25 -0700", "17-Jul-1996\t02:44:25 -0700", "17-Jul-1996-02:44:25 -0700", "17-Jul-1996T02:44:25 -0700", "17-Jul-199602:44:25 -0700",
	"17-Jul-1996 24:00:00 -0700", "17-Jul-1996 99:44:25 -0700", "17-Jul-1996 2:44:25 -0700", "17-Jul-1996  2:44:25 -0700", "17-Jul-1996 002:44:25 -0700", "17-Jul-1996 -2:44:25 -0700", "17-Jul-1996 +2:44:25 -0700", "17-Jul-1996 a2:44:25 -0700", "17-Jul-1996 2a:44:25 -0700",
	"17-Jul-1996 02:60:25 -0700", "17-Jul-1996 02:99:25 -0700", "17-Jul-1996 02:4:25 -0700", "17-Jul-1996 02: 4:25 -0700", "17-Jul-1996 02:044:25 -0700", "17-Jul-1996 02:-4:25 -0700",
	"17-Jul-1996 02:44:60 -0700", "17-Jul-1996 02:44:61 -0700", "17-Jul-1996 02:44:99 -0700", "17-Jul-1996 02:44:5 -0700", "17-Jul-1996 02:44: 5 -0700", "17-Jul-1996 02:44:025 -0700", "17-Jul-1996 02:44:25.0 -0700",
	"17-Jul-1996 02.44.25 -0700", "17-Jul-1996 02-44-25 -0700", "17-Jul-1996 02:44-25 -0700", "17-Jul-1996 02 44 25 -0700", "17-Jul-1996 024425 -0700",
	"17-Jul-1996 02:44:25-0700", "17-Jul-1996 02:44:25  -0700", "17-Jul-1996 02:44:25\t-0700", "17-Jul-1996 02:44:25 0700", "17-Jul-1996 02:44:25 00700", "17-Jul-1996 02:44:25  0700", "17-Jul-1996 02:44:25 +-700", "17-Jul-1996 02:44:25 --0700", "17-Jul-1996 02:44:25 -+700", "17-Jul-1996 02:44:25 ,0700", "17-Jul-1996 02:44:25 *0700", "17-Jul-1996 02:44:25 +07:00", "17-Jul-1996 02:44:25 GMT", "17-Jul-1996 02:44:25 Z", "17-Jul-1996 02:44:25 \u22120700",
	"17-Jul-1996 02:44:25 -0760", "17-Jul-1996 02:44:25 +0799", "17-Jul-1996 02:44:25 +9960", "17-Jul-1996 02:44:25 +0060", "17-Jul-1996 02:44:25 +07a0", "17-Jul-1996 02:44:25 +a700", "17-Jul-1996 02:44:25 + 700", "17-Jul-1996 02:44:25 +070 ",
}

// mails are such's Dates, and their days.
var mails = []struct {
	text   string
	number int
}{
	{"Mon, 5 Feb 96 10:00 GMT", 9531},
	{"5 Feb 96", 9531},
	{"5 Feb 1996", 9531},
	{"05 Feb 1996", 9531},
	{"5 feb 1996", 9531},
	{"5 FEB 1996", 9531},
	{"5 fEb 1996", 9531},
	{"Mon, 05 Feb 1996 10:00:00 +0000 (GMT)", 9531},
	// commas
	{",5 Feb 1996", 9531},
	{", 5 Feb 1996", 9531},
	{"Mon,5 Feb 1996", 9531},
	{"Mon ,\t5 Feb 1996", 9531},
	{"whatever there is \x00\xff\n, 5 Feb 1996", 9531},
	{"6 Feb 1996, 5 Feb 1996", 9531},
	{"6 Feb 1996,5 Feb 1996", 9531},
	{"Mon, 5 Feb 1996 , 6 Feb 1997", 9531},
	{"Mon, 5 Feb 1996 ,", 9531},
	{"Mon, 5 Feb 1996 , , ,", 9531},
	// blanks
	{"  5  Feb  1996  ", 9531},
	{"\t5\tFeb\t1996\t", 9531},
	{" \t 5 \t Feb\t \t1996 \t", 9531},
	// what is behind
	{"5 Feb 1996 99:99:99 +9999", 9531},
	{"5 Feb 1996 \x00\xff", 9531},
	{"5 Feb 1996\t(a comment)", 9531},
	{"5 Feb 1996 5 Feb 1997", 9531},
	// years of two digits
	{"1 Jan 00", 10957},
	{"29 Feb 00", 11016},
	{"1 Jan 01", 11323},
	{"1 Jan 49", 28855},
	{"1 Jan 50", -7305},
	{"1 Jan 70", 0},
	{"31 Dec 99", 10956},
	// of three digits
	{"1 Jan 000", -25567},
	{"1 Jan 049", -7670},
	{"1 Jan 050", -7305},
	{"1 Jan 070", 0},
	{"31 Dec 099", 10956},
	{"29 Feb 100", 11016},
	{"1 Jan 126", 20454},
	{"1 Jan 999", 339311},
	// of four digits
	{"1 Jan 0001", api.MinDay},
	{"5 Feb 0096", -684429},
	{"1 Jan 0049", -701630},
	{"31 Dec 9999", api.MaxDay},
	{"29 Feb 2000", 11016},
	{"29 Feb 1996", 9555},
}

// noMails are Dates that tell no day.
var noMails = []string{
	"", " ", "\t", ",", ", ", ",,", "tomorrow", "Mon,", "Mon, ", "5", "5 ", "5 Feb", "5 Feb ", "Mon, 5 Feb", "Mon, 5", "Feb 1996", "5 1996", "5 Feb,1996",
	"Mon 5 Feb 1996", "Mon, Tue, 5 Feb 1996", "Mon, 5 Feb 1996, 6 Feb 1997", "Mon, 5 Feb 1996,", "5 Feb 1996,", "5 Feb 1996, ", "5 Feb 1996, tomorrow", "5 Feb 1996 10:00, GMT", "5, Feb 1996", ",5 Feb,1996",
	"0 Feb 1996", "00 Feb 1996", "000 Feb 1996", "005 Feb 1996", "100 Feb 1996", "30 Feb 1996", "32 Jan 1996", "29 Feb 1900", "29 Feb 000", "29 Feb 01", "29 Feb 1995", "29 Feb 2100", "31 Apr 1996", "99 Jan 1996", "-5 Feb 1996", "+5 Feb 1996", "5th Feb 1996", "5. Feb 1996", "a Feb 1996", "five Feb 1996", "\xff Feb 1996", "/ Feb 1996", ": Feb 1996",
	"5 F 1996", "5 Fe 1996", "5 Febr 1996", "5 February 1996", "5 Fex 1996", "5 2 1996", "5 02 1996", "5 ebM 1996", "5 \xc6eb 1996", "5 \u017fep 1996",
	"5 Feb 6", "5 Feb 19960", "5 Feb 01996", "5 Feb 0000", "5 Feb -996", "5 Feb +996", "5 Feb 199a", "5 Feb 1996a", "5 Feb a996", "5 Feb 1996(x)", "5 Feb 1996;", "5 Feb '96", "5 Feb 99999999999999999999", "5 Feb 9 6", "5 Feb 1_96",
	"5-Feb-1996", "5-Feb 1996", "5 Feb-1996", "5Feb1996", "5Feb 1996", "5 Feb1996", "1996 Feb 5", "Feb 5 1996", "1996-02-05", "5\nFeb 1996", "5 Feb\n1996", "\n5 Feb 1996", "5 Feb 1996\n", "5\vFeb\v1996", "5\xa0Feb\xa01996", "5\u00a0Feb 1996", "5 Feb \r1996", "\x005 Feb 1996",
	"Mon Feb  5 10:00:00 1996", "99999999999999999999 Feb 1996", "18446744073709551621 Feb 1996",
}

// writings tells a text with great letters, with small ones, and with both.
func writings(s string) []string {
	mixed := []byte(strings.ToLower(s))
	for i := range mixed {
		if i%2 == 0 {
			mixed[i] = strings.ToUpper(s)[i]
		}
	}
	return []string{s, strings.ToLower(s), strings.ToUpper(s), string(mixed)}
}

// other tells a day by the library's calendar.
func other(year, month, day int) int {
	return int(time.Date(year, time.Month(month), day, 0, 0, 0, 0, time.UTC).Unix() / 86400)
}

// slow tells a day of texts that a pattern has found, by the library's calendar, and whether there is such a day.
func slow(year, month, day string) (int, bool) {
	y, _ := strconv.Atoi(year)
	d, _ := strconv.Atoi(strings.TrimSpace(day))
	m := 0
	for i, name := range months {
		if strings.EqualFold(name, month) {
			m = i + 1
		}
	}
	is := time.Date(y, time.Month(m), d, 0, 0, 0, 0, time.UTC)
	return int(is.Unix() / 86400), y >= 1 && m > 0 && d > 0 && is.Day() == d
}

const slowMonth = `((?i:jan|feb|mar|apr|may|jun|jul|aug|sep|oct|nov|dec))` // no letter of these is one elsewhere but s: see slowPure

var (
	slowPure = regexp.MustCompile(`^[\x00-\x7f]*$`)
	slowDay  = regexp.MustCompile(`^([0-9]|[1-9][0-9])-` + slowMonth + `-([0-9]{4})$`)
	slowTime = regexp.MustCompile(`^([0-9]{2}| [0-9])-` + slowMonth + `-([0-9]{4}) ([01][0-9]|2[0-3]):([0-5][0-9]):([0-5][0-9]) ([+-])([0-9]{2})([0-5][0-9])$`)
	slowMail = regexp.MustCompile(`(?s)^(?:[^,]*,)?[ \t]*([0-9]{1,2})[ \t]+` + slowMonth + `[ \t]+([0-9]{2,4})(?:[ \t].*)?$`)
)

// slowParse, slowParseTime and slowMailDay read as the chapter words it.
func slowParse(s string) (int, bool) {
	m := slowDay.FindStringSubmatch(s)
	if m == nil || !slowPure.MatchString(s) {
		return 0, false
	}
	return slow(m[3], m[2], m[1])
}

func slowParseTime(s string) (api.Time, bool) {
	m := slowTime.FindStringSubmatch(s)
	if m == nil || !slowPure.MatchString(s) {
		return api.Time{}, false
	}
	day, is := slow(m[3], m[2], m[1])
	of := func(i int) int {
		n, _ := strconv.Atoi(m[i])
		return n
	}
	t := api.Time{Day: day, Second: of(4)*3600 + of(5)*60 + of(6), Zone: of(8)*60 + of(9)}
	if m[7] == "-" {
		t.Zone = -t.Zone
	}
	return t, is
}

func slowMailDay(s string) (int, bool) {
	if i := strings.IndexByte(s, ','); i >= 0 {
		s = s[i+1:]
		if strings.Contains(s, ",") { // one more is bytes like others
			s = strings.ReplaceAll(s, ",", ";")
		}
	}
	m := slowMail.FindStringSubmatch(s)
	if m == nil || !slowPure.MatchString(m[2]) {
		return 0, false
	}
	year, _ := strconv.Atoi(m[3])
	switch {
	case len(m[3]) == 2 && year < 50:
		year += 2000
	case len(m[3]) < 4:
		year += 1900
	}
	return slow(strconv.Itoa(year), m[2], m[1])
}

// shares tells whether two texts have a byte of memory together.
func shares(a, b string) bool {
	if a == "" || b == "" {
		return false
	}
	x, y := uintptr(unsafe.Pointer(unsafe.StringData(a))), uintptr(unsafe.Pointer(unsafe.StringData(b)))
	return x < y+uintptr(len(b)) && y < x+uintptr(len(a))
}

// changed puts other bytes into a text here and there.
func changed(r *rand.Rand, s string) string {
	const some = "0123456789  \t-:+,aJFbnSMp\n\x00\xff"
	b := []byte(s)
	for range r.Intn(4) {
		at, c := r.Intn(len(b)+1), some[r.Intn(len(some))]
		switch r.Intn(4) {
		case 0:
			b = append(b[:at], append([]byte{c}, b[at:]...)...)
		case 1:
			b = append(b[:at:at], b[min(at+1, len(b)):]...)
		default:
			if at < len(b) {
				b[at] = c
			}
		}
	}
	return string(b)
}

// 10.1
func TestDays(t *testing.T) {
	for _, c := range days {
		if n, errno := date.Day(c.year, c.month, c.day); n != c.number || errno != api.OK {
			t.Errorf("Day(%d, %d, %d) = %d, %d, not %d", c.year, c.month, c.day, n, errno, c.number)
		}
		if year, month, day, errno := date.Civil(c.number); year != c.year || month != c.month || day != c.day || errno != api.OK {
			t.Errorf("Civil(%d) = %d, %d, %d, %d", c.number, year, month, day, errno)
		}
		if n, errno := date.Weekday(c.number); n != c.weekday || errno != api.OK {
			t.Errorf("Weekday(%d) = %d, %d, not %d", c.number, n, errno, c.weekday)
		}
	}
}

// 10.1, P2
func TestWhatIsNoDayIsRefused(t *testing.T) {
	for _, c := range noDays {
		if n, errno := date.Day(c[0], c[1], c[2]); n != 0 || errno != api.ErrRange {
			t.Errorf("Day(%d, %d, %d) = %d, %d", c[0], c[1], c[2], n, errno)
		}
	}
	for _, n := range noNumbers {
		if year, month, day, errno := date.Civil(n); year != 0 || month != 0 || day != 0 || errno != api.ErrRange {
			t.Errorf("Civil(%d) = %d, %d, %d, %d", n, year, month, day, errno)
		}
		if k, errno := date.Weekday(n); k != 0 || errno != api.ErrRange {
			t.Errorf("Weekday(%d) = %d, %d", n, k, errno)
		}
		if s, errno := date.Write(n); s != "" || errno != api.ErrRange {
			t.Errorf("Write(%d) = %q, %d", n, s, errno)
		}
	}
}

// 10.1: of each year February's last day, and the one behind it.
func TestYearsOf366Days(t *testing.T) {
	many := 0
	for year := 1; year <= 9999; year++ {
		long := other(year, 12, 31)-other(year, 1, 1) == 365
		n, errno := date.Day(year, 2, 29)
		if long && (n != other(year, 2, 29) || errno != api.OK) || !long && (n != 0 || errno != api.ErrRange) {
			t.Errorf("Day(%d, 2, 29) = %d, %d", year, n, errno)
		}
		if long {
			many++
		}
	}
	if many != 2424 {
		t.Errorf("%d years have 366 days", many)
	}
}

// 10.1, 10.5, 10.6: all days, one behind the other, held against the library's.
func TestEachDay(t *testing.T) {
	n, weekday := api.MinDay, 1
	for year := 1; year <= 9999; year++ {
		for month := 1; month <= 12; month++ {
			last := time.Date(year, time.Month(month)+1, 0, 0, 0, 0, 0, time.UTC).Day()
			for day := 1; day <= last; day++ {
				if got, errno := date.Day(year, month, day); got != n || errno != api.OK {
					t.Fatalf("Day(%d, %d, %d) = %d, %d, not %d", year, month, day, got, errno, n)
				}
				if y, m, d, errno := date.Civil(n); y != year || m != month || d != day || errno != api.OK {
					t.Fatalf("Civil(%d) = %d, %d, %d, %d, not %d, %d, %d", n, y, m, d, errno, year, month, day)
				}
				if k, errno := date.Weekday(n); k != weekday || errno != api.OK {
					t.Fatalf("Weekday(%d) = %d, %d, not %d", n, k, errno, weekday)
				}
				n, weekday = n+1, (weekday+1)%7
			}
			for _, day := range []int{0, last + 1} {
				if got, errno := date.Day(year, month, day); got != 0 || errno != api.ErrRange {
					t.Fatalf("Day(%d, %d, %d) = %d, %d", year, month, day, got, errno)
				}
			}
		}
	}
	if n != api.MaxDay+1 || other(1970, 1, 1) != 0 {
		t.Errorf("the last day is %d", n-1)
	}
}

// 10.2
func TestParseAndWrite(t *testing.T) {
	for _, c := range texts {
		for _, s := range writings(c.text) {
			if n, errno := date.Parse(s); n != c.number || errno != api.OK {
				t.Errorf("Parse(%q) = %d, %d, not %d", s, n, errno, c.number)
			}
		}
		if s, errno := date.Write(c.number); s != c.text || errno != api.OK {
			t.Errorf("Write(%d) = %q, %d, not %q", c.number, s, errno, c.text)
		}
	}
}

// 10.2, P2
func TestParseRefusesWhatIsNoDay(t *testing.T) {
	for _, s := range noTexts {
		if n, errno := date.Parse(s); n != 0 || errno != api.ErrCode {
			t.Errorf("Parse(%q) = %d, %d", s, n, errno)
		}
	}
	for _, c := range noDays {
		if c[0] < 0 || c[0] > 9999 || c[1] < 1 || c[1] > 12 || c[2] < 0 || c[2] > 99 {
			continue
		}
		for _, form := range []string{"%d-%s-%04d", "%02d-%s-%04d 00:00:00 +0000", "%d %s %04d"} {
			s := fmt.Sprintf(form, c[2], months[c[1]-1], c[0])
			_, first := date.Parse(s)
			_, second := date.ParseTime(s)
			_, third := date.Mail(s)
			if first != api.ErrCode || second != api.ErrCode || third != api.ErrCode {
				t.Errorf("of %q: %d, %d, %d", s, first, second, third)
			}
		}
	}
}

// 10.2, 10.3
func TestEachMonthHasItsName(t *testing.T) {
	for i, name := range months {
		want := other(1999, i+1, 8)
		for _, name := range writings(name) {
			n, errno := date.Parse("8-" + name + "-1999")
			if n != want || errno != api.OK {
				t.Errorf("of %s: %d, %d", name, n, errno)
			}
			if u, errno := date.ParseTime(" 8-" + name + "-1999 00:00:00 +0000"); u.Day != want || errno != api.OK {
				t.Errorf("of %s: %d, %d", name, u.Day, errno)
			}
			if n, errno = date.Mail("8 " + name + " 1999"); n != want || errno != api.OK {
				t.Errorf("of %s: %d, %d", name, n, errno)
			}
		}
		if s, errno := date.Write(want); s != "8-"+name+"-1999" || errno != api.OK {
			t.Errorf("Write(%d) = %q, %d", want, s, errno)
		}
		if s, errno := date.WriteTime(api.Time{Day: want}); s != " 8-"+name+"-1999 00:00:00 +0000" || errno != api.OK {
			t.Errorf("WriteTime(%d) = %q, %d", want, s, errno)
		}
	}
}

// 10.2
func TestTimes(t *testing.T) {
	for _, c := range times {
		for _, s := range writings(c.text) {
			if u, errno := date.ParseTime(s); u != c.time || errno != api.OK {
				t.Errorf("ParseTime(%q) = %v, %d, not %v", s, u, errno, c.time)
			}
		}
		if s, errno := date.WriteTime(c.time); s != c.text || errno != api.OK {
			t.Errorf("WriteTime(%v) = %q, %d, not %q", c.time, s, errno, c.text)
		}
	}
	for _, c := range otherTimes {
		if u, errno := date.ParseTime(c.text); u != c.time || errno != api.OK {
			t.Errorf("ParseTime(%q) = %v, %d, not %v", c.text, u, errno, c.time)
		}
	}
}

// 10.2, P2
func TestParseTimeRefusesWhatIsNoTime(t *testing.T) {
	for _, s := range noTimes {
		if u, errno := date.ParseTime(s); u != (api.Time{}) || errno != api.ErrCode {
			t.Errorf("ParseTime(%q) = %v, %d", s, u, errno)
		}
	}
	const right = "17-Jul-1996 02:44:25 -0700"
	for i := range len(right) {
		if u, errno := date.ParseTime(right[:i]); u != (api.Time{}) || errno != api.ErrCode {
			t.Errorf("ParseTime(%q) = %v, %d", right[:i], u, errno)
		}
		if u, errno := date.ParseTime(right[:i] + right[i+1:]); u != (api.Time{}) || errno != api.ErrCode {
			t.Errorf("ParseTime(%q) = %v, %d", right[:i]+right[i+1:], u, errno)
		}
	}
}

// 10.2, P2
func TestWriteTimeRefusesWhatIsNotRight(t *testing.T) {
	for _, u := range []api.Time{
		{Second: -1}, {Second: 86400}, {Second: 1 << 31}, {Second: math.MinInt}, {Second: math.MaxInt},
		{Zone: -6000}, {Zone: 6000}, {Zone: 1 << 31}, {Zone: math.MinInt}, {Zone: math.MaxInt},
		{Day: math.MinInt, Second: math.MinInt, Zone: math.MinInt}, {Day: math.MaxInt, Second: math.MaxInt, Zone: math.MaxInt},
	} {
		if s, errno := date.WriteTime(u); s != "" || errno != api.ErrForm {
			t.Errorf("WriteTime(%v) = %q, %d", u, s, errno)
		}
	}
	for _, n := range noNumbers {
		if s, errno := date.WriteTime(api.Time{Day: n}); s != "" || errno != api.ErrForm {
			t.Errorf("WriteTime of the day %d = %q, %d", n, s, errno)
		}
	}
}

// 10.2: each second of a day, and each zone, there and back.
func TestEachSecondAndEachZone(t *testing.T) {
	for n := range 86400 {
		u := api.Time{Day: n, Second: n, Zone: n%11999 - 5999}
		sign, zone := '+', u.Zone
		if zone < 0 {
			sign, zone = '-', -zone
		}
		is := time.Unix(int64(n)*86400+int64(n), 0).UTC()
		want := is.Format("_2-Jan-2006 15:04:05 ") + fmt.Sprintf("%c%02d%02d", sign, zone/60, zone%60)
		if s, errno := date.WriteTime(u); s != want || errno != api.OK {
			t.Fatalf("WriteTime(%v) = %q, %d, not %q", u, s, errno, want)
		}
		if back, errno := date.ParseTime(want); back != u || errno != api.OK {
			t.Fatalf("ParseTime(%q) = %v, %d", want, back, errno)
		}
	}
}

// 10.3
func TestMail(t *testing.T) {
	for _, c := range mails {
		for _, s := range writings(c.text) {
			if n, errno := date.Mail(s); n != c.number || errno != api.OK {
				t.Errorf("Mail(%q) = %d, %d, not %d", s, n, errno, c.number)
			}
		}
	}
}

// 10.3, P2
func TestMailRefusesWhatTellsNoDay(t *testing.T) {
	for _, s := range noMails {
		if n, errno := date.Mail(s); n != 0 || errno != api.ErrCode {
			t.Errorf("Mail(%q) = %d, %d", s, n, errno)
		}
	}
}

// 10.3
func TestYearsOfFewDigits(t *testing.T) {
	for year := range 10000 {
		for digits, more := range map[int]int{2: 1900, 3: 1900, 4: 0} {
			s := fmt.Sprintf("%0*d", digits, year)
			if len(s) != digits {
				continue
			}
			if digits == 2 && year < 50 {
				more = 2000
			}
			n, errno := date.Mail("Sun, 7 Mar " + s + " x")
			if year+more == 0 {
				if n != 0 || errno != api.ErrCode {
					t.Errorf("of the year %s: %d, %d", s, n, errno)
				}
			} else if n != other(year+more, 3, 7) || errno != api.OK {
				t.Errorf("of the year %s: %d, %d", s, n, errno)
			}
		}
	}
}

// 10.2, 10.3
func TestAllIsAsItIsWorded(t *testing.T) {
	r := rand.New(rand.NewSource(1))
	var right [3]int
	for range 100000 {
		s := changed(r, texts[r.Intn(len(texts))].text)
		n, is := slowParse(s)
		if got, errno := date.Parse(s); is && (got != n || errno != api.OK) || !is && (got != 0 || errno != api.ErrCode) {
			t.Fatalf("Parse(%q) = %d, %d, not %d, %v", s, got, errno, n, is)
		} else if is {
			right[0]++
		}
		s = changed(r, times[r.Intn(len(times))].text)
		u, is := slowParseTime(s)
		if got, errno := date.ParseTime(s); is && (got != u || errno != api.OK) || !is && (got != api.Time{} || errno != api.ErrCode) {
			t.Fatalf("ParseTime(%q) = %v, %d, not %v, %v", s, got, errno, u, is)
		} else if is {
			right[1]++
		}
		s = changed(r, mails[r.Intn(len(mails))].text)
		n, is = slowMailDay(s)
		if got, errno := date.Mail(s); is && (got != n || errno != api.OK) || !is && (got != 0 || errno != api.ErrCode) {
			t.Fatalf("Mail(%q) = %d, %d, not %d, %v", s, got, errno, n, is)
		} else if is {
			right[2]++
		}
	}
	for i, many := range right {
		if many < 10000 || many > 90000 {
			t.Errorf("of the %dth call's texts %d were right", i, many)
		}
	}
}

// 10.4
func TestAnswersAreNewMemory(t *testing.T) {
	for _, n := range []int{0, 9531, api.MinDay, api.MaxDay} {
		u := api.Time{Day: n}
		a, _ := date.Write(n)
		b, _ := date.Write(n)
		c, _ := date.WriteTime(u)
		d, _ := date.WriteTime(u)
		if shares(a, b) || shares(c, d) || shares(a, c) {
			t.Errorf("texts of %d share their memory", n)
		}
	}
}

// 10.5
func TestThereAndBack(t *testing.T) {
	for n := api.MinDay; n <= api.MaxDay; n++ {
		s, errno := date.Write(n)
		if back, again := date.Parse(s); errno != api.OK || back != n || again != api.OK {
			t.Fatalf("%d is written %q, %d, and parsed as %d, %d", n, s, errno, back, again)
		}
		if back, errno := date.Mail(strings.ReplaceAll(s, "-", " ")); back != n || errno != api.OK {
			t.Fatalf("%d is written %q, and of a mail it is %d, %d", n, s, back, errno)
		}
	}
	r := rand.New(rand.NewSource(2))
	for range 100000 {
		u := api.Time{Day: api.MinDay + r.Intn(api.MaxDay-api.MinDay+1), Second: r.Intn(86400), Zone: r.Intn(11999) - 5999}
		s, errno := date.WriteTime(u)
		if back, again := date.ParseTime(s); errno != api.OK || len(s) != 26 || back != u || again != api.OK {
			t.Fatalf("%v is written %q, %d, and parsed as %v, %d", u, s, errno, back, again)
		}
	}
}

// P1 to P4
func TestAnythingIsAnswered(t *testing.T) {
	ahead := runtime.NumGoroutine()
	r := rand.New(rand.NewSource(3))
	const some = "0123456789---   ::+-,JjanFEBdec\t\n\x00\xff"
	for range 30000 {
		b := make([]byte, r.Intn(30))
		for i := range b {
			b[i] = some[r.Intn(len(some))]
		}
		s := string(b)
		n, first := date.Parse(s)
		u, second := date.ParseTime(s)
		m, third := date.Mail(s)
		if first != api.OK && (first != api.ErrCode || n != 0) || second != api.OK && (second != api.ErrCode || u != api.Time{}) || third != api.OK && (third != api.ErrCode || m != 0) {
			t.Fatalf("of %q: %d, %d, %v, %d, %d, %d", s, n, first, u, second, m, third)
		}
		if again, errno := date.Mail(s); again != m || errno != third {
			t.Fatalf("Mail(%q) is %d, and %d", s, m, again)
		}
		any := func() int { return int(r.Uint64()) >> r.Intn(64) }
		if n, errno := date.Day(any(), any(), any()); errno != api.OK && (errno != api.ErrRange || n != 0) {
			t.Fatalf("%d, %d", n, errno)
		}
		date.Civil(any())
		date.Weekday(any())
		date.Write(any())
		date.WriteTime(api.Time{Day: any(), Second: any(), Zone: any()})
	}
	if behind := runtime.NumGoroutine(); behind > ahead { // fewer, if that of an earlier test was just ending
		t.Errorf("%d goroutines ahead, %d behind", ahead, behind)
	}
}

// P1
func TestLongTextsAreAnswered(t *testing.T) {
	const long = 1 << 22
	for _, c := range []struct {
		text   string
		number int
		errno  api.Errno
	}{
		{strings.Repeat("x", long) + ",5 Feb 1996", 9531, api.OK},
		{strings.Repeat(" ", long) + "5" + strings.Repeat("\t", long) + "Feb" + strings.Repeat(" ", long) + "96", 9531, api.OK},
		{"5 Feb 1996 " + strings.Repeat("x", long), 9531, api.OK},
		{strings.Repeat(",", long) + "5 Feb 1996", 0, api.ErrCode},
		{strings.Repeat("5", long) + " Feb 1996", 0, api.ErrCode},
		{"5 Feb " + strings.Repeat("0", long) + "1996", 0, api.ErrCode},
		{strings.Repeat(" ", long), 0, api.ErrCode},
	} {
		if n, errno := date.Mail(c.text); n != c.number || errno != c.errno {
			t.Errorf("Mail(%.8q and so on) = %d, %d", c.text, n, errno)
		}
		if n, errno := date.Parse(c.text); n != 0 || errno != api.ErrCode {
			t.Errorf("Parse(%.8q and so on) = %d, %d", c.text, n, errno)
		}
		if u, errno := date.ParseTime(c.text); u != (api.Time{}) || errno != api.ErrCode {
			t.Errorf("ParseTime(%.8q and so on) = %v, %d", c.text, u, errno)
		}
	}
}
