package rec_test

import (
	"hash/crc32"
	"math"
	"math/rand"
	"runtime"
	"slices"
	"strings"
	"testing"
	"unsafe"

	"missive/api"
	"missive/rec"
	"missive/vari"
)

// The signatures that the chapter lists.
var (
	_ func(string) uint32                      = rec.Sum
	_ func(string) (string, api.Errno)         = rec.Frame
	_ func(string) (string, string, api.Errno) = rec.Next
	_ func(string) ([]string, int)             = rec.All
	_ func(...string) (string, api.Errno)      = rec.Join
)

// shares tells whether two texts have a byte of memory together.
func shares(a, b string) bool {
	if a == "" || b == "" {
		return false
	}
	x, y := uintptr(unsafe.Pointer(unsafe.StringData(a))), uintptr(unsafe.Pointer(unsafe.StringData(b)))
	return x < y+uintptr(len(b)) && y < x+uintptr(len(a))
}

// random tells bytes by a rule.
func random(r *rand.Rand, many int) string {
	b := make([]byte, many)
	r.Read(b)
	return string(b)
}

// frame tells a frame as the chapter says it, whatever the length that it tells.
func frame(length uint64, s string) string {
	head := vari.Put(length)
	sum := crc32.ChecksumIEEE([]byte(head + s))
	return head + string([]byte{byte(sum >> 24), byte(sum >> 16), byte(sum >> 8), byte(sum)}) + s
}

// mustJoin tells the frames of records that are not too long.
func mustJoin(t *testing.T, l ...string) string {
	t.Helper()
	s, errno := rec.Join(l...)
	if errno != api.OK {
		t.Fatalf("Join: %d", errno)
	}
	return s
}

// 2.1
func TestSum(t *testing.T) {
	for _, c := range []struct {
		s   string
		sum uint32
	}{
		{"", 0},
		{"\x00", 0xd202ef8d},
		{"\xff", 0xff000000},
		{"a", 0xe8b7be43},
		{"123456789", 0xcbf43926},
	} {
		if sum := rec.Sum(c.s); sum != c.sum {
			t.Errorf("Sum(%x) = %x, not %x", c.s, sum, c.sum)
		}
	}
	r := rand.New(rand.NewSource(1))
	for many := range 300 {
		s := random(r, many)
		if sum, want := rec.Sum(s), bitByBit(s); sum != want || want != crc32.ChecksumIEEE([]byte(s)) {
			t.Errorf("Sum(%x) = %x, not %x", s, sum, want)
		}
	}
}

// bitByBit tells a sum just as the chapter words it.
func bitByBit(s string) uint32 {
	sum := uint32(0xffffffff)
	for _, b := range []byte(s) {
		for bit := range 8 {
			one := uint32(b)>>bit&1 ^ sum&1
			sum >>= 1
			if one == 1 {
				sum ^= 0xedb88320
			}
		}
	}
	return ^sum
}

// 2.1
func TestFrame(t *testing.T) {
	if f, errno := rec.Frame("a"); f != "\x01"+"\x62\x77\x72\x70"+"a" || errno != api.OK {
		t.Errorf("Frame(a) = %x, %d", f, errno)
	}
	for _, many := range []int{0, 1, 127, 128, 16383, 16384, api.MaxData - 1, api.MaxData} {
		s := strings.Repeat("x", many)
		if f, errno := rec.Frame(s); f != frame(uint64(many), s) || errno != api.OK {
			t.Errorf("the frame of %d bytes has %d, %d", many, len(f), errno)
		}
	}
}

// 2.1, P2
func TestTooLongIsNotFramed(t *testing.T) {
	long := strings.Repeat("x", api.MaxData+1)
	if f, errno := rec.Frame(long); f != "" || errno != api.ErrLong {
		t.Errorf("Frame of too much: %d bytes, %d", len(f), errno)
	}
	for _, l := range [][]string{{long}, {"a", long}, {long, "a"}, {"a", long, "b"}} {
		if s, errno := rec.Join(l...); s != "" || errno != api.ErrLong {
			t.Errorf("Join with too much: %d bytes, %d", len(s), errno)
		}
	}
}

// 2.1
func TestJoin(t *testing.T) {
	most := strings.Repeat("y", api.MaxData)
	for _, l := range [][]string{nil, {""}, {"a"}, {"a", ""}, {"", "", "bc"}, {most, "z", most}} {
		want := ""
		for _, s := range l {
			want += frame(uint64(len(s)), s)
		}
		if s, errno := rec.Join(l...); s != want || errno != api.OK {
			t.Errorf("Join of %d records has %d bytes, not %d; %d", len(l), len(s), len(want), errno)
		}
	}
}

// 2.2
func TestNextTellsRecordAndRest(t *testing.T) {
	for _, want := range []string{"", "a", "\x00", strings.Repeat("b", 128), strings.Repeat("c", api.MaxData)} {
		for _, behind := range []string{"", "z", "\x80", strings.Repeat("\xff", 12)} {
			s, rest, errno := rec.Next(frame(uint64(len(want)), want) + behind)
			if s != want || rest != behind || errno != api.OK {
				t.Errorf("Next of %d bytes, and %x: %d bytes, %x, %d", len(want), behind, len(s), rest, errno)
			}
		}
	}
}

// 2.2, P2
func TestNextRefuses(t *testing.T) {
	nine := strings.Repeat("\xff", 9)
	long := strings.Repeat("x", api.MaxData+1)
	for name, c := range map[string]struct {
		s     string
		errno api.Errno
	}{
		"nothing":                      {"", api.ErrShort},
		"a length that ends too soon":  {"\x80", api.ErrShort},
		"a length of nine bytes":       {nine, api.ErrShort},
		"a tenth byte above 1":         {nine + "\x02", api.ErrCode},
		"a length that ends with 0":    {"\x81\x00" + "\x00\x00\x00\x00a", api.ErrCode},
		"one more than MaxData":        {vari.Put(api.MaxData + 1), api.ErrLong},
		"one more, and all its bytes":  {frame(api.MaxData+1, long), api.ErrLong},
		"the greatest length":          {vari.Put(math.MaxUint64), api.ErrLong},
		"MaxData, and nothing":         {vari.Put(api.MaxData), api.ErrShort},
		"no sum":                       {"\x00", api.ErrShort},
		"three bytes of a sum":         {frame(0, "")[:4], api.ErrShort},
		"a sum alone":                  {frame(1, "a")[:5], api.ErrShort},
		"a wrong sum of what is short": {"\x02\x00\x00\x00\x00a", api.ErrShort},
		"a wrong sum of nothing":       {"\x00\x00\x00\x00\x00", api.ErrSum},
		"a wrong sum":                  {"\x01\x00\x00\x00\x00a", api.ErrSum},
		"a sum of the bytes alone":     {"\x01\xe8\xb7\xbe\x43a", api.ErrSum},
	} {
		s, rest, errno := rec.Next(c.s)
		if s != "" || rest != "" || errno != c.errno {
			t.Errorf("Next of %s: %x, %x, %d, not the error %d alone", name, s, rest, errno, c.errno)
		}
	}
}

// 2.2
func TestAll(t *testing.T) {
	for _, want := range [][]string{nil, {""}, {"a", ""}, {"one", "", "three"}, slices.Repeat([]string{"", "x"}, 5000)} {
		s := mustJoin(t, want...)
		for _, behind := range []string{"", "\x05", "\x80", "\x80\x00", "\x01\x00\x00\x00\x00a", vari.Put(math.MaxUint64)} {
			l, n := rec.All(s + behind)
			if !slices.Equal(l, want) || n != len(s) {
				t.Errorf("All of %d records, and %x: %d records of %d bytes, not %d", len(want), behind, len(l), n, len(s))
			}
		}
	}
	good := mustJoin(t, "good")
	if l, n := rec.All("\x00\x00\x00\x00\x00" + good); len(l) != 0 || n != 0 {
		t.Errorf("behind what is no frame %q, %d are told", l, n)
	}
	if l, n := rec.All(good + "\x00\x00\x00\x00\x00" + good); !slices.Equal(l, []string{"good"}) || n != len(good) {
		t.Errorf("behind a record, and what is no frame %q, %d are told", l, n)
	}
}

// 2.3
func TestAnswersAreNewMemory(t *testing.T) {
	records := []string{strings.Repeat("a", 50), strings.Repeat("b", 50)}
	s := mustJoin(t, records...)
	if shares(s, records[0]) || shares(s, records[1]) || shares(s, mustJoin(t, records...)) {
		t.Error("what Join tells shares its memory")
	}
	one, rest, _ := rec.Next(s)
	if shares(one, s) || shares(rest, s) || shares(one, rest) {
		t.Error("what Next tells shares its memory")
	}
	l, _ := rec.All(s)
	if shares(l[0], s) || shares(l[1], s) || shares(l[0], l[1]) {
		t.Error("what All tells shares its memory")
	}
	l[0] = "changed"
	if again, _ := rec.All(s); !slices.Equal(again, records) {
		t.Errorf("a list that was changed is told as %q", again)
	}
	given := slices.Clone(records)
	rec.Join(given...)
	if !slices.Equal(given, records) {
		t.Error("what was handed in is changed")
	}
}

// 2.4
func TestThereAndBack(t *testing.T) {
	r := rand.New(rand.NewSource(2))
	var all []string
	for _, many := range []int{0, 1, 2, 5, 126, 127, 128, 129, 1000, 16383, 16384, api.MaxData} {
		want := random(r, many)
		all = append(all, want)
		f, errno := rec.Frame(want)
		if errno != api.OK {
			t.Fatalf("Frame of %d bytes: %d", many, errno)
		}
		if s, rest, errno := rec.Next(f + "rest"); s != want || rest != "rest" || errno != api.OK {
			t.Errorf("%d bytes are framed, and told as %d, %d, %d", many, len(s), len(rest), errno)
		}
	}
	s := mustJoin(t, all...)
	if l, n := rec.All(s); !slices.Equal(l, all) || n != len(s) {
		t.Errorf("%d records are joined, and told as %d of %d bytes", len(all), len(l), n)
	}
}

// 2.5
func TestTornFramesAreNotTold(t *testing.T) {
	r := rand.New(rand.NewSource(3))
	records := []string{"one", "", random(r, 130), "\x00\x00", random(r, 300), "", "end"}
	s := mustJoin(t, records...)
	for cut := range len(s) + 1 {
		whole, size := 0, 0
		for _, record := range records {
			if end := size + len(frame(uint64(len(record)), record)); end <= cut {
				whole, size = whole+1, end
			} else {
				break
			}
		}
		if l, n := rec.All(s[:cut]); !slices.Equal(l, records[:whole]) || n != size {
			t.Fatalf("cut at %d: %d records of %d bytes, not %d of %d", cut, len(l), n, whole, size)
		}
		if _, _, errno := rec.Next(s[size:cut]); errno != api.ErrShort {
			t.Fatalf("what is left behind a cut at %d: %d", cut, errno)
		}
	}
}

// 2.6
func TestTurnedFramesAreNone(t *testing.T) {
	for _, record := range []string{"", "a", "\x00\x00\x00\x00", strings.Repeat("mail", 40)} {
		f := mustJoin(t, record)
		for at := vari.Size(uint64(len(record))); at < len(f); at++ {
			for turn := 1; turn < 256; turn++ {
				b := []byte(f)
				b[at] ^= byte(turn)
				if s, rest, errno := rec.Next(string(b) + "z"); s != "" || rest != "" || errno != api.ErrSum {
					t.Fatalf("%x: %x, %x, %d", b, s, rest, errno)
				}
				if l, n := rec.All(string(b)); len(l) != 0 || n != 0 {
					t.Fatalf("%x: %x, %d", b, l, n)
				}
			}
		}
	}
}

// P1 to P4
func TestAnyBytesAreAnswered(t *testing.T) {
	ahead := runtime.NumGoroutine()
	r := rand.New(rand.NewSource(4))
	for range 50000 {
		s := random(r, r.Intn(12))
		if s != "" && r.Intn(2) == 0 {
			s = string([]byte{byte(r.Intn(6))}) + s[1:]
		}
		one, rest, errno := rec.Next(s)
		if errno != api.OK && (one != "" || rest != "") || errno == api.OK && frame(uint64(len(one)), one)+rest != s {
			t.Fatalf("Next(%x) = %x, %x, %d", s, one, rest, errno)
		}
		l, n := rec.All(s)
		again, m := rec.All(s)
		if !slices.Equal(l, again) || n != m || mustJoin(t, l...) != s[:n] {
			t.Fatalf("All(%x) = %x, %d and %x, %d", s, l, n, again, m)
		}
	}
	if behind := runtime.NumGoroutine(); behind > ahead { // fewer, if that of an earlier test was just ending
		t.Errorf("%d goroutines ahead, %d behind", ahead, behind)
	}
}
