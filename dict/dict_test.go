package dict_test

import (
	"math"
	"math/rand"
	"runtime"
	"slices"
	"strings"
	"testing"
	"unsafe"

	"missive/api"
	"missive/dict"
	"missive/vari"
)

// The signatures that the chapter lists.
var (
	_ func(...api.Entry) (string, api.Errno)                = dict.Write
	_ func(string) ([]api.Entry, string, api.Errno)         = dict.Read
	_ func(string, uint64) (string, api.Errno)              = dict.Find
	_ func(string, uint64, uint64) ([]api.Entry, api.Errno) = dict.Range
	_ func(string) ([]uint64, api.Errno)                    = dict.Keys
)

const (
	greatest = math.MaxUint64
	nine     = "\xff\xff\xff\xff\xff\xff\xff\xff\xff"
)

// entries makes entries of keys, each with that data.
func entries(data string, keys ...uint64) []api.Entry {
	var l []api.Entry
	for _, key := range keys {
		l = append(l, api.Entry{Key: key, Data: data})
	}
	return l
}

// rising tells many keys, each one so much above the one ahead.
func rising(from uint64, many int, step uint64) []uint64 {
	l := make([]uint64, many)
	for i := range l {
		l[i] = from + uint64(i)*step
	}
	return l
}

// random tells entries whose keys are often near each other.
func random(r *rand.Rand, many int) []api.Entry {
	var keys []uint64
	width := r.Intn(64)
	for range many {
		keys = append(keys, r.Uint64()>>width)
	}
	slices.Sort(keys)
	var l []api.Entry
	for _, key := range slices.Compact(keys) {
		data := make([]byte, r.Intn(4))
		r.Read(data)
		l = append(l, api.Entry{Key: key, Data: string(data)})
	}
	return l
}

// keysOf tells the keys of entries.
func keysOf(l []api.Entry) []uint64 {
	var keys []uint64
	for _, e := range l {
		keys = append(keys, e.Key)
	}
	return keys
}

// mustWrite tells the bytes of a dictionary that is right.
func mustWrite(t *testing.T, l ...api.Entry) string {
	t.Helper()
	s, errno := dict.Write(l...)
	if errno != api.OK {
		t.Fatalf("Write of %d entries: %d", len(l), errno)
	}
	return s
}

// numbers tells numbers' bytes, one behind the other.
func numbers(l ...uint64) string {
	s := ""
	for _, n := range l {
		s += vari.Put(n)
	}
	return s
}

// shares tells whether two texts have a byte of memory together.
func shares(a, b string) bool {
	if a == "" || b == "" {
		return false
	}
	x, y := uintptr(unsafe.Pointer(unsafe.StringData(a))), uintptr(unsafe.Pointer(unsafe.StringData(b)))
	return x < y+uintptr(len(b)) && y < x+uintptr(len(a))
}

// 14.1
func TestDictionariesAreWrittenAndRead(t *testing.T) {
	for _, c := range []struct {
		l []api.Entry
		s string
	}{
		{nil, "\x00"},
		{[]api.Entry{}, "\x00"},
		{[]api.Entry{{}}, "\x01\x00\x00"},
		{[]api.Entry{{Data: "a"}}, "\x01\x00\x01a"},
		{[]api.Entry{{Key: 3, Data: "a"}, {Key: 5}}, "\x02\x03\x01\x01\x00a"},
		{[]api.Entry{{Key: 3}, {Key: 5, Data: "ab"}}, "\x02\x03\x00\x01\x02ab"},
		{[]api.Entry{{Key: 0, Data: "b"}, {Key: 1, Data: "cd"}, {Key: 302, Data: "\x00"}}, "\x03\x00\x01\x00\x02\xac\x02\x01bcd\x00"},
		{[]api.Entry{{Key: greatest, Data: "z"}}, "\x01" + nine + "\x01\x01z"},
		{[]api.Entry{{Data: "a"}, {Key: greatest, Data: "z"}}, "\x02\x00\x01\xfe" + nine[1:] + "\x01\x01az"},
		{[]api.Entry{{Key: greatest - 1}, {Key: greatest}}, "\x02\xfe" + nine[1:] + "\x01\x00\x00\x00"},
		{[]api.Entry{{Key: 9, Data: strings.Repeat("x", 300)}}, "\x01\x09\xac\x02" + strings.Repeat("x", 300)},
	} {
		if s, errno := dict.Write(c.l...); s != c.s || errno != api.OK {
			t.Errorf("Write(%v) = %x, %d, not %x", c.l, s, errno, c.s)
		}
		for _, behind := range []string{"", "z", "\x00", "\x80", nine + nine, c.s} {
			if l, rest, errno := dict.Read(c.s + behind); !slices.Equal(l, c.l) || rest != behind || errno != api.OK {
				t.Errorf("Read(%x) = %v, %x, %d", c.s+behind, l, rest, errno)
			}
			if l, errno := dict.Keys(c.s + behind); !slices.Equal(l, keysOf(c.l)) || errno != api.OK {
				t.Errorf("Keys(%x) = %d, %d", c.s+behind, l, errno)
			}
		}
	}
}

// 14.1, P2
func TestWriteRefuses(t *testing.T) {
	most := rising(0, api.MaxEntries, 1)
	for name, c := range map[string]struct {
		keys  []uint64
		errno api.Errno
	}{
		"0 twice":                       {[]uint64{0, 0}, api.ErrOrder},
		"3 twice":                       {[]uint64{3, 3}, api.ErrOrder},
		"the greatest twice":            {[]uint64{greatest, greatest}, api.ErrOrder},
		"0 behind the greatest":         {[]uint64{greatest, 0}, api.ErrOrder},
		"one below":                     {[]uint64{3, 2}, api.ErrOrder},
		"the last below the second":     {[]uint64{1, 5, 6, 3}, api.ErrOrder},
		"the last twice":                {[]uint64{1, 5, 6, 6}, api.ErrOrder},
		"one more than MaxEntries":      {rising(0, api.MaxEntries+1, 1), api.ErrLong},
		"many more":                     {rising(0, 3*api.MaxEntries, 1<<40), api.ErrLong},
		"one more, up to the greatest":  {rising(greatest-api.MaxEntries, api.MaxEntries+1, 1), api.ErrLong},
		"one more, and the last twice":  {append(slices.Clone(most), most[len(most)-1]), api.ErrOrder},
		"one more, and 0 at the end":    {append(slices.Clone(most), 0), api.ErrOrder},
		"one more, and the first twice": {append([]uint64{0}, most...), api.ErrOrder},
		"one more, and all alike":       {make([]uint64, api.MaxEntries+1), api.ErrOrder},
	} {
		for _, data := range []string{"", "d"} {
			if s, errno := dict.Write(entries(data, c.keys...)...); s != "" || errno != c.errno {
				t.Errorf("Write of %s: %d bytes, %d, not %d", name, len(s), errno, c.errno)
			}
		}
	}
}

// 14.1
func TestMostEntries(t *testing.T) {
	for _, keys := range [][]uint64{rising(0, api.MaxEntries, 1), rising(greatest-api.MaxEntries+1, api.MaxEntries, 1), rising(7, api.MaxEntries, 1<<47)} {
		want := entries("data", keys...)
		s := mustWrite(t, want...)
		if l, rest, errno := dict.Read(s + "z"); !slices.Equal(l, want) || rest != "z" || errno != api.OK {
			t.Errorf("MaxEntries entries are read as %d, %x, %d", len(l), rest, errno)
		}
		if l, errno := dict.Keys(s); !slices.Equal(l, keys) || errno != api.OK {
			t.Errorf("MaxEntries entries have %d keys, %d", len(l), errno)
		}
		if data, errno := dict.Find(s, keys[len(keys)-1]); data != "data" || errno != api.OK {
			t.Errorf("the last key is found with %q, %d", data, errno)
		}
	}
	refused(t, numbers(api.MaxEntries+1)+strings.Repeat("\x00\x00", api.MaxEntries+1), api.ErrLong)
}

// refused sees that all that read s answer that error, and nothing else.
func refused(t *testing.T, s string, want api.Errno) {
	t.Helper()
	if l, rest, errno := dict.Read(s); len(l) != 0 || rest != "" || errno != want {
		t.Errorf("Read(%x) = %v, %x, %d, not the error %d alone", s, l, rest, errno, want)
	}
	for _, key := range []uint64{0, 3, 5, greatest} {
		if data, errno := dict.Find(s, key); data != "" || errno != want {
			t.Errorf("Find(%x, %d) = %q, %d, not the error %d alone", s, key, data, errno, want)
		}
	}
	if l, errno := dict.Range(s, 0, greatest); len(l) != 0 || errno != want {
		t.Errorf("Range(%x) = %v, %d, not the error %d alone", s, l, errno, want)
	}
	if l, errno := dict.Range(s, 1, 0); len(l) != 0 || errno != want {
		t.Errorf("an empty Range(%x) = %v, %d, not the error %d alone", s, l, errno, want)
	}
	if l, errno := dict.Keys(s); len(l) != 0 || errno != want {
		t.Errorf("Keys(%x) = %d, %d, not the error %d alone", s, l, errno, want)
	}
}

// 14.1, 14.2, P2
func TestWhatIsNoDictionaryIsRefused(t *testing.T) {
	last := nine + "\x01"
	for _, c := range []struct {
		s     string
		errno api.Errno
	}{
		{"", api.ErrShort},
		{"\x80", api.ErrShort},
		{nine, api.ErrShort},
		{"\x80\x00", api.ErrCode},
		{nine + "\x02", api.ErrCode},
		{nine + nine, api.ErrCode},
		// a count that is too great, whatever is behind it
		{numbers(api.MaxEntries + 1), api.ErrLong},
		{numbers(api.MaxEntries+1) + "\x80\x00", api.ErrLong},
		{numbers(greatest), api.ErrLong},
		{numbers(api.MaxEntries), api.ErrShort},
		// keys
		{"\x01", api.ErrShort},
		{"\x01\x80", api.ErrShort},
		{"\x01\x80\x00\x00", api.ErrCode},
		{"\x01" + nine + "\x02\x00", api.ErrCode},
		{"\x02\x03\x00", api.ErrShort},
		{"\x02\x03\x00\x80", api.ErrShort},
		{"\x02\x03\x00\x80\x00", api.ErrCode},
		// keys that would be above the greatest
		{"\x02" + last + "\x00\x00\x00", api.ErrCode},
		{"\x02" + last + "\x00\x00", api.ErrCode},
		{"\x02" + last + "\x00" + last + "\x00", api.ErrCode},
		{"\x02" + last + "\x00", api.ErrShort},
		{"\x02" + last + "\x00\x80\x00", api.ErrCode},
		{"\x02\x00\x00" + last + "\x00", api.ErrCode},
		{"\x02\x03\x00" + numbers(greatest-3) + "\x00", api.ErrCode},
		{"\x02\x03\x00" + numbers(greatest) + "\x00", api.ErrCode},
		{"\x03" + numbers(greatest-1) + "\x00\x00\x00\x00\x00", api.ErrCode},
		{"\x02\x03\x09" + last + "\x00", api.ErrCode}, // ahead of data that are not there
		// sizes
		{"\x01\x03", api.ErrShort},
		{"\x01\x03\x80", api.ErrShort},
		{"\x01\x03\x80\x00", api.ErrCode},
		{"\x01\x03" + nine + "\x02", api.ErrCode},
		{"\x02\x03\x00\x01", api.ErrShort},
		{"\x02\x03\x00\x01\x80\x00", api.ErrCode},
		// data that end too soon: asked behind all entries
		{"\x01\x03\x01", api.ErrShort},
		{"\x01\x03\x02a", api.ErrShort},
		{"\x02\x03\x01\x01\x01a", api.ErrShort},
		{"\x02\x03\x09\x80\x00", api.ErrCode},
		{"\x02\x03" + numbers(greatest) + "\x80\x00", api.ErrCode},
		{"\x01\x03" + numbers(greatest) + "abc", api.ErrShort},
		{"\x01\x03" + numbers(1<<63) + "abc", api.ErrShort},
		{"\x01\x03" + numbers(1<<32) + "abc", api.ErrShort},
		{"\x02\x03" + numbers(greatest, 0, 1) + "abc", api.ErrShort}, // sizes whose sum would be 0
		{"\x02\x03" + numbers(1<<63, 0, 1<<63) + "abc", api.ErrShort},
		{"\x02\x03\x01" + numbers(0, greatest) + "abc", api.ErrShort},
	} {
		refused(t, c.s, c.errno)
	}
}

// 14.1, P2
func TestBytesThatEndTooSoon(t *testing.T) {
	r := rand.New(rand.NewSource(1))
	for _, l := range [][]api.Entry{{{Key: 3, Data: "a"}, {Key: 5}, {Key: greatest, Data: "zz"}}, entries("", 0, 300, greatest), random(r, 100)} {
		s := mustWrite(t, l...)
		for cut := range len(s) {
			refused(t, s[:cut], api.ErrShort)
		}
	}
}

// 14.2
func TestFindAndRange(t *testing.T) {
	l := []api.Entry{{Key: 0, Data: "nought"}, {Key: 3, Data: "a"}, {Key: 5}, {Key: 6, Data: "\x00"}, {Key: 900, Data: "bc"}, {Key: greatest, Data: "last"}}
	s := mustWrite(t, l...)
	for _, behind := range []string{"", "z", s} {
		for _, e := range l {
			if data, errno := dict.Find(s+behind, e.Key); data != e.Data || errno != api.OK {
				t.Errorf("Find(%d) = %q, %d, not %q", e.Key, data, errno, e.Data)
			}
		}
		for _, key := range []uint64{1, 2, 4, 7, 899, 901, greatest - 1} {
			if data, errno := dict.Find(s+behind, key); data != "" || errno != api.ErrNone {
				t.Errorf("Find(%d) = %q, %d, not ErrNone", key, data, errno)
			}
		}
		for _, c := range []struct {
			from, to uint64
			want     []api.Entry
		}{
			{0, greatest, l},
			{0, 0, l[:1]},
			{greatest, greatest, l[5:]},
			{0, greatest - 1, l[:5]},
			{1, greatest, l[1:]},
			{3, 5, l[1:3]},
			{2, 6, l[1:4]},
			{4, 9, l[2:4]},
			{5, 5, l[2:3]},
			{4, 4, nil},
			{7, 899, nil},
			{901, greatest - 1, nil},
			{5, 3, nil},
			{5, 4, nil},
			{greatest, 0, nil},
		} {
			if got, errno := dict.Range(s+behind, c.from, c.to); !slices.Equal(got, c.want) || errno != api.OK {
				t.Errorf("Range(%d, %d) = %v, %d, not %v", c.from, c.to, got, errno, c.want)
			}
		}
	}
	if data, errno := dict.Find("\x00", 0); data != "" || errno != api.ErrNone {
		t.Errorf("in no entries %q, %d is found", data, errno)
	}
	if got, errno := dict.Range("\x00", 0, greatest); len(got) != 0 || errno != api.OK {
		t.Errorf("of no entries %v, %d is told", got, errno)
	}
}

// 14.3
func TestAnswersAreNewMemory(t *testing.T) {
	given := []api.Entry{{Key: 3, Data: strings.Repeat("a", 50)}, {Key: 5, Data: strings.Repeat("b", 50)}, {Key: 7}}
	s := mustWrite(t, given...) + strings.Repeat("y", 100)
	l, rest, _ := dict.Read(s)
	some, _ := dict.Range(s, 0, greatest)
	data, _ := dict.Find(s, 5)
	again, _, _ := dict.Read(s)
	texts := []string{s, rest, data, given[0].Data, given[1].Data, mustWrite(t, given...), mustWrite(t, given...), mustWrite(t), mustWrite(t)}
	for _, answer := range [][]api.Entry{l, some, again} {
		for _, e := range answer {
			texts = append(texts, e.Data)
		}
	}
	for i := range texts {
		for j := range i {
			if shares(texts[i], texts[j]) {
				t.Errorf("texts %d and %d share their memory", j, i)
			}
		}
	}
	keys, _ := dict.Keys(s)
	l[0], some[0], keys[0] = api.Entry{}, api.Entry{}, 0
	if more, _, _ := dict.Read(s); !slices.Equal(more, given) {
		t.Errorf("entries that were changed are read as %v", more)
	}
	if more, _ := dict.Range(s, 0, greatest); !slices.Equal(more, given) {
		t.Errorf("entries that were changed are told as %v", more)
	}
	if more, _ := dict.Keys(s); !slices.Equal(more, []uint64{3, 5, 7}) {
		t.Errorf("keys that were changed are told as %d", more)
	}
	written := mustWrite(t, given...)
	given[0] = api.Entry{Key: 1, Data: "changed"}
	if !strings.HasPrefix(s, written) || !slices.Equal(given[1:], again[1:]) {
		t.Error("what was handed in is kept, or changed")
	}
}

// 14.4, 14.5
func TestEntriesThereAndBack(t *testing.T) {
	r := rand.New(rand.NewSource(2))
	for range 3000 {
		want := random(r, r.Intn(60))
		s := mustWrite(t, want...)
		if l, rest, errno := dict.Read(s + "\xff"); !slices.Equal(l, want) || rest != "\xff" || errno != api.OK {
			t.Fatalf("%v is written, and read as %v, %x, %d", want, l, rest, errno)
		}
		have := map[uint64]string{}
		for _, e := range want {
			have[e.Key] = e.Data
			if data, errno := dict.Find(s, e.Key); data != e.Data || errno != api.OK {
				t.Fatalf("of %v, %d is found with %q, %d", want, e.Key, data, errno)
			}
		}
		for _, e := range want {
			for _, key := range []uint64{e.Key - 1, e.Key + 1, r.Uint64()} {
				if _, is := have[key]; is {
					continue
				}
				if data, errno := dict.Find(s, key); data != "" || errno != api.ErrNone {
					t.Fatalf("of %v, %d is found with %q, %d", want, key, data, errno)
				}
			}
		}
		from, to := r.Uint64()>>r.Intn(64), r.Uint64()>>r.Intn(64)
		in := slices.DeleteFunc(slices.Clone(want), func(e api.Entry) bool { return e.Key < from || e.Key > to })
		if l, errno := dict.Range(s, from, to); !slices.Equal(l, in) || errno != api.OK {
			t.Fatalf("of %v, those from %d to %d are %v, %d", want, from, to, l, errno)
		}
	}
}

// plainly reads a dictionary just as the chapter words it; keys are reckoned in two halves, so that none wraps.
func plainly(s string) ([]api.Entry, string, api.Errno) {
	count, rest, errno := vari.Get(s)
	if errno != api.OK {
		return nil, "", errno
	}
	if count > api.MaxEntries {
		return nil, "", api.ErrLong
	}
	var l []api.Entry
	var sizes []uint64
	for i := range int(count) {
		var key, size uint64
		if key, rest, errno = vari.Get(rest); errno != api.OK {
			return nil, "", errno
		}
		if i > 0 {
			ahead := l[i-1].Key
			low := key&math.MaxUint32 + ahead&math.MaxUint32 + 1
			high := key>>32 + ahead>>32 + low>>32
			if high > math.MaxUint32 {
				return nil, "", api.ErrCode
			}
			key = high<<32 | low&math.MaxUint32
		}
		if size, rest, errno = vari.Get(rest); errno != api.OK {
			return nil, "", errno
		}
		l = append(l, api.Entry{Key: key})
		sizes = append(sizes, size)
	}
	for i, size := range sizes {
		if size > uint64(len(rest)) {
			return nil, "", api.ErrShort
		}
		l[i].Data, rest = rest[:size], rest[size:]
	}
	return l, rest, api.OK
}

// texts tells texts of any bytes, and dictionaries with bytes that are changed, cut out and put in.
func texts(t *testing.T) []string {
	var l []string
	for a := range 256 {
		for b := range 256 {
			l = append(l, string([]byte{byte(a), byte(b)}), string([]byte{1, byte(a), byte(b), 0}))
		}
	}
	r := rand.New(rand.NewSource(3))
	for range 60000 {
		b := []byte(mustWrite(t, random(r, r.Intn(8))...) + "behind"[:r.Intn(7)])
		for range r.Intn(4) {
			at := r.Intn(len(b))
			switch r.Intn(5) {
			case 0:
				b[at] = byte(r.Intn(256))
			case 1:
				b[at] += byte(r.Intn(3) - 1)
			case 2:
				b = slices.Insert(b, at, byte(r.Intn(3)<<7))
			case 3:
				b = slices.Insert(slices.Delete(b, at, at+1), 0, byte(r.Intn(4)))
			case 4:
				b = b[:at+1]
			}
		}
		l = append(l, string(b))
	}
	return l
}

// 14.1, 14.4, P1 to P4
func TestAnyBytesAreAnswered(t *testing.T) {
	ahead := runtime.NumGoroutine()
	many := map[api.Errno]int{}
	for _, s := range texts(t) {
		want, behind, wantErrno := plainly(s)
		many[wantErrno]++
		l, rest, errno := dict.Read(s)
		if !slices.Equal(l, want) || rest != behind || errno != wantErrno {
			t.Fatalf("Read(%x) = %v, %x, %d, not %v, %x, %d", s, l, rest, errno, want, behind, wantErrno)
		}
		if errno == api.OK && mustWrite(t, l...)+rest != s {
			t.Fatalf("%x is read as %v, that is written in another way", s, l)
		}
		if all, errno := dict.Range(s, 0, greatest); !slices.Equal(all, want) || errno != wantErrno {
			t.Fatalf("Range(%x) = %v, %d, not %d", s, all, errno, wantErrno)
		}
		if keys, errno := dict.Keys(s); !slices.Equal(keys, keysOf(want)) || errno != wantErrno {
			t.Fatalf("Keys(%x) = %d, %d, not %d", s, keys, errno, wantErrno)
		}
		if data, errno := dict.Find(s, 0); wantErrno != api.OK && (data != "" || errno != wantErrno) {
			t.Fatalf("Find(%x, 0) = %q, %d, not %d", s, data, errno, wantErrno)
		}
	}
	for _, errno := range []api.Errno{api.OK, api.ErrShort, api.ErrCode, api.ErrLong} {
		if many[errno] < 100 {
			t.Errorf("only %d texts are answered by %d", many[errno], errno)
		}
	}
	if behind := runtime.NumGoroutine(); behind > ahead { // fewer, if that of an earlier test was just ending
		t.Errorf("%d goroutines ahead, %d behind", ahead, behind)
	}
}
