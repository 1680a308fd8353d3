package manif_test

import (
	"fmt"
	"math"
	"math/rand"
	"reflect"
	"runtime"
	"slices"
	"strings"
	"testing"
	"unsafe"

	"missive/api"
	"missive/disk"
	"missive/manif"
	"missive/post"
	"missive/rec"
)

// The signatures that the chapter lists.
var (
	_ func(api.Manifest) api.Errno                     = manif.Check
	_ func(api.Manifest) (string, api.Errno)           = manif.Encode
	_ func(string) (api.Manifest, api.Errno)           = manif.Decode
	_ func(uint64) (string, api.Errno)                 = manif.Name
	_ func(api.Fs) (api.Manifest, api.Errno)           = manif.Load
	_ func(api.Fs, api.Manifest) (api.Fs, api.Errno)   = manif.Commit
	_ func(api.Fs, api.Manifest) ([]string, api.Errno) = manif.Orphans
	_ func(api.Fs, api.Manifest) (api.Fs, api.Errno)   = manif.Collect
)

// refs tells segments of these Ids, with an item each.
func refs(ids ...uint64) []api.SegRef {
	var l []api.SegRef
	for _, id := range ids {
		l = append(l, api.SegRef{Id: id, Items: 1})
	}
	return l
}

// manyRefs tells so many segments, of the Ids from 0 on.
func manyRefs(many int) []api.SegRef {
	l := make([]api.SegRef, many)
	for i := range l {
		l[i] = api.SegRef{Id: uint64(i), Items: i}
	}
	return l
}

// rising tells so many numbers from that one on, each so far from the next one.
func rising(from uint32, many int, apart uint32) []uint32 {
	l := make([]uint32, many)
	for i := range l {
		l[i] = from + uint32(i)*apart
	}
	return l
}

// some tells a manifest that has something of everything.
func some() api.Manifest {
	return api.Manifest{Gen: 3, Next: 300, Segs: []api.SegRef{{Id: 1, Items: 2}, {Id: 7}, {Id: 299, Items: 4096}}, Dead: []uint32{4, 5, 400}, Upto: 9}
}

// right are manifests that are right.
func right() map[string]api.Manifest {
	return map[string]api.Manifest{
		"the least":          {Gen: 1},
		"something":          some(),
		"empty lists":        {Gen: 1, Segs: []api.SegRef{}, Dead: []uint32{}},
		"the greatest Gen":   {Gen: math.MaxUint64},
		"Next of MaxId":      {Gen: 1, Next: api.MaxId},
		"Upto of MaxId":      {Gen: 1, Upto: api.MaxId},
		"the Id 0":           {Gen: 1, Next: 1, Segs: refs(0)},
		"an Id below MaxId":  {Gen: 2, Next: api.MaxId, Segs: refs(0, api.MaxId-1)},
		"MaxSegs segments":   {Gen: 1, Next: api.MaxSegs, Segs: manyRefs(api.MaxSegs)},
		"no items":           {Gen: 1, Next: 2, Segs: []api.SegRef{{Id: 1}}},
		"MaxItems items":     {Gen: 1, Next: 2, Segs: []api.SegRef{{Id: 1, Items: api.MaxItems}}},
		"the dead number 0":  {Gen: 1, Dead: []uint32{0}},
		"the greatest dead":  {Gen: 1, Dead: []uint32{0, 1, math.MaxUint32}},
		"MaxList dead":       {Gen: 1, Dead: rising(0, api.MaxList, 1)},
		"MaxList dead apart": {Gen: math.MaxUint64, Next: api.MaxId, Upto: api.MaxId, Dead: rising(65535, api.MaxList, 65536)},
	}
}

// wrong are manifests that are not right.
func wrong() map[string]api.Manifest {
	l := map[string]api.Manifest{
		"zero":                    {},
		"Next above MaxId":        {Gen: 1, Next: api.MaxId + 1},
		"the greatest Next":       {Gen: 1, Next: math.MaxUint64},
		"Upto above MaxId":        {Gen: 1, Upto: api.MaxId + 1},
		"the greatest Upto":       {Gen: 1, Upto: math.MaxUint64},
		"one segment too many":    {Gen: 1, Next: api.MaxId, Segs: manyRefs(api.MaxSegs + 1)},
		"an Id twice":             {Gen: 1, Next: 9, Segs: refs(3, 3)},
		"an Id below the other":   {Gen: 1, Next: 9, Segs: refs(3, 2)},
		"the last Id below":       {Gen: 1, Next: 9, Segs: refs(0, 3, 5, 4)},
		"an Id that is Next":      {Gen: 1, Next: 9, Segs: refs(9)},
		"the last Id is Next":     {Gen: 1, Next: 9, Segs: refs(3, 9)},
		"an Id above Next":        {Gen: 1, Next: 9, Segs: refs(10)},
		"an Id, and no Next":      {Gen: 1, Segs: refs(0)},
		"the Id MaxId":            {Gen: 1, Next: api.MaxId, Segs: refs(api.MaxId)},
		"the greatest Id":         {Gen: 1, Next: api.MaxId, Segs: refs(math.MaxUint64)},
		"items below 0":           {Gen: 1, Next: 9, Segs: []api.SegRef{{Id: 1, Items: -1}}},
		"the least items":         {Gen: 1, Next: 9, Segs: []api.SegRef{{Id: 1, Items: math.MinInt}}},
		"one item too many":       {Gen: 1, Next: 9, Segs: []api.SegRef{{Id: 1, Items: api.MaxItems + 1}}},
		"the greatest items":      {Gen: 1, Next: 9, Segs: []api.SegRef{{Id: 1, Items: math.MaxInt}}},
		"items wrong behind":      {Gen: 1, Next: 9, Segs: []api.SegRef{{Id: 1}, {Id: 2, Items: -1}}},
		"one dead too many":       {Gen: 1, Dead: rising(0, api.MaxList+1, 1)},
		"dead twice":              {Gen: 1, Dead: []uint32{4, 4}},
		"the dead number 0 twice": {Gen: 1, Dead: []uint32{0, 0}},
		"dead that fall":          {Gen: 1, Dead: []uint32{4, 3}},
		"dead that fall behind":   {Gen: 1, Dead: []uint32{1, 2, 9, 0}},
	}
	m := some()
	m.Gen = 0
	l["a Gen of 0"] = m
	return l
}

// same takes nil and empty lists as alike.
func same(a, b api.Manifest) bool {
	return a.Gen == b.Gen && a.Next == b.Next && a.Upto == b.Upto && slices.Equal(a.Segs, b.Segs) && slices.Equal(a.Dead, b.Dead)
}

// sameFs is same of file systems.
func sameFs(a, b api.Fs) bool {
	files := slices.Equal(a.Files, b.Files)
	a.Files, b.Files = nil, nil
	return files && reflect.DeepEqual(a, b)
}

// number tells a number's bytes.
func number(n uint64) string {
	var b []byte
	for ; n > 127; n /= 128 {
		b = append(b, byte(n%128+128))
	}
	return string(append(b, byte(n)))
}

// pieces tells what is in the record of a manifest, right or not, one piece a number, and one of Dead.
func pieces(m api.Manifest) []string {
	l := []string{number(m.Gen), number(m.Next), number(m.Upto), number(uint64(len(m.Segs)))}
	for _, s := range m.Segs {
		l = append(l, number(s.Id), number(uint64(s.Items)))
	}
	return append(l, packed(m.Dead))
}

// packed tells the bytes of a list, also of one that does not rise: then the gaps wrap, and are no gaps.
func packed(l []uint32) string {
	if s, errno := post.Pack(l); errno == api.OK {
		return s
	}
	s := number(uint64(len(l)))
	ahead := uint32(0)
	for block := range slices.Chunk(l, api.BlockSize) {
		rest := ""
		for i := 1; i < len(block); i++ {
			rest += number(uint64(block[i] - block[i-1] - 1))
		}
		s += number(uint64(block[0]-ahead)) + number(uint64(len(block))) + number(uint64(len(rest))) + rest
		ahead = block[len(block)-1]
	}
	return s
}

// frame tells a record of pieces.
func frame(t *testing.T, pieces ...string) string {
	t.Helper()
	s, errno := rec.Frame(strings.Join(pieces, ""))
	if errno != api.OK {
		t.Fatalf("Frame: %d", errno)
	}
	return s
}

// encode tells the bytes of a manifest that is right.
func encode(t *testing.T, m api.Manifest) string {
	t.Helper()
	s, errno := manif.Encode(m)
	if errno != api.OK {
		t.Fatalf("Encode(%v): %d", m, errno)
	}
	return s
}

// notDecoded sees that these bytes are no manifest's.
func notDecoded(t *testing.T, what, s string) {
	t.Helper()
	if m, errno := manif.Decode(s); !same(m, api.Manifest{}) || errno != api.ErrCode {
		t.Errorf("%s: Decode tells %v, %d, not ErrCode alone", what, m, errno)
	}
}

// 18.1
func TestCheck(t *testing.T) {
	for what, m := range right() {
		if errno := manif.Check(m); errno != api.OK {
			t.Errorf("Check of %s: %d", what, errno)
		}
	}
	for what, m := range wrong() {
		if errno := manif.Check(m); errno != api.ErrForm {
			t.Errorf("Check of %s: %d", what, errno)
		}
	}
}

// 18.1
func TestBytesOfManifests(t *testing.T) {
	for what, c := range map[string]struct {
		m api.Manifest
		s string
	}{
		"the least":    {api.Manifest{Gen: 1}, "\x01\x00\x00\x00\x00"},
		"one segment":  {api.Manifest{Gen: 1, Next: 3, Segs: []api.SegRef{{Id: 1, Items: 2}}, Dead: []uint32{4}, Upto: 9}, "\x01\x03\x09\x01\x01\x02\x01\x04\x01\x00"},
		"something":    {some(), "\x03\xac\x02\x09\x03\x01\x02\x07\x00\xab\x02\x80\x20\x03\x04\x03\x03\x00\x8a\x03"},
		"the greatest": {api.Manifest{Gen: math.MaxUint64, Next: api.MaxId, Upto: api.MaxId}, "\xff\xff\xff\xff\xff\xff\xff\xff\xff\x01\xff\xc7\xaf\xa0\x25\xff\xc7\xaf\xa0\x25\x00\x00"},
	} {
		if s, errno := manif.Encode(c.m); s != frame(t, c.s) || errno != api.OK {
			t.Errorf("Encode of %s: %x, %d, not the frame of %x", what, s, errno, c.s)
		}
		if m, errno := manif.Decode(frame(t, c.s)); !same(m, c.m) || errno != api.OK {
			t.Errorf("Decode of %s: %v, %d", what, m, errno)
		}
	}
}

// 18.1, P2
func TestEncodeAndDecode(t *testing.T) {
	for what, m := range right() {
		s, errno := manif.Encode(m)
		if errno != api.OK || s != frame(t, pieces(m)...) {
			t.Errorf("Encode of %s: %d bytes, %d", what, len(s), errno)
		}
		if n, errno := manif.Decode(s); !same(n, m) || errno != api.OK {
			t.Errorf("%s is encoded, and decoded as something else: %d", what, errno)
		}
	}
	for what, m := range wrong() {
		if s, errno := manif.Encode(m); s != "" || errno != api.ErrForm {
			t.Errorf("Encode of %s: %d bytes, %d, not ErrForm alone", what, len(s), errno)
		}
		notDecoded(t, what, frame(t, pieces(m)...))
	}
}

// 18.1: no right manifest has a record that would be too long, for the greatest one is far from that.
func TestTheLongestRecord(t *testing.T) {
	m := api.Manifest{Gen: math.MaxUint64, Next: api.MaxId, Upto: api.MaxId}
	for i := range uint64(api.MaxSegs) {
		m.Segs = append(m.Segs, api.SegRef{Id: api.MaxId - api.MaxSegs + i, Items: api.MaxItems})
	}
	four := (1<<32 - api.MaxList<<14) >> 21 // so many gaps may have four bytes, if the others have three
	at := uint32(0)
	for i := range api.MaxList {
		m.Dead = append(m.Dead, at)
		at += 1<<14 + 1
		if i < four {
			at += 1<<21 - 1<<14
		}
	}
	s, errno := manif.Encode(m)
	if errno != api.OK || len(s) < 3*api.MaxList || len(s) > api.MaxData/2 {
		t.Fatalf("Encode: %d bytes, %d", len(s), errno)
	}
	if n, errno := manif.Decode(s); !same(n, m) || errno != api.OK {
		t.Errorf("it is decoded as something else: %d", errno)
	}
	long := strings.Repeat("\x00", api.MaxData+1) // with a frame that would be right, were it not too long
	sum := rec.Sum(number(uint64(len(long))) + long)
	notDecoded(t, "a record that is too long", number(uint64(len(long)))+string([]byte{byte(sum >> 24), byte(sum >> 16), byte(sum >> 8), byte(sum)})+long)
}

// 18.1, P2
func TestBytesThatEndTooSoonOrGoOn(t *testing.T) {
	for what, m := range right() {
		s := encode(t, m)
		notDecoded(t, what+", and a byte", s+"\x00")
		notDecoded(t, what+" twice", s+s)
		all := pieces(m)
		notDecoded(t, what+", and a byte in its record", frame(t, append(slices.Clone(all), "\x00")...))
		notDecoded(t, what+", and a byte ahead", "\x00"+s)
		if len(s) > 1000 {
			continue
		}
		for i := range s {
			notDecoded(t, fmt.Sprintf("the first %d bytes of %s", i, what), s[:i])
		}
		record := strings.Join(all, "")
		for i := range record {
			notDecoded(t, fmt.Sprintf("the first %d bytes of the record of %s", i, what), frame(t, record[:i]))
		}
	}
	notDecoded(t, "nothing", "")
	notDecoded(t, "a record of nothing", frame(t))
}

// 18.1, P2
func TestBytesThatAreTurned(t *testing.T) {
	s := encode(t, some())
	for i := range len(s) {
		for bit := range 8 {
			turned := []byte(s)
			turned[i] ^= 1 << bit
			notDecoded(t, fmt.Sprintf("bit %d of byte %d turned", bit, i), string(turned))
		}
	}
}

// longer tells the same number in one byte more than it needs.
func longer(s string) string {
	return s[:len(s)-1] + string([]byte{s[len(s)-1] | 128, 0})
}

// 18.1, P2
func TestNumbersInMoreBytesThanTheyNeed(t *testing.T) {
	for _, m := range []api.Manifest{some(), {Gen: 1}, right()["MaxSegs segments"]} {
		all := pieces(m)
		for i := range len(all) - 1 {
			l := slices.Clone(all)
			l[i] = longer(l[i])
			notDecoded(t, fmt.Sprintf("piece %d in more bytes", i), frame(t, l...))
		}
	}
	record := "\x01\x03\x09\x01\x01\x02"
	for i, dead := range []string{"\x81\x00\x04\x01\x00", "\x01\x84\x00\x01\x00", "\x01\x04\x81\x00\x00", "\x01\x04\x01\x80\x00", "\x02\x04\x02\x02\x81\x00"} {
		notDecoded(t, fmt.Sprintf("number %d of Dead in more bytes", i), frame(t, record, dead))
	}
	length := longer(number(uint64(len(record) + 1)))
	sum := rec.Sum(length + record + "\x00")
	notDecoded(t, "the length in more bytes", length+string([]byte{byte(sum >> 24), byte(sum >> 16), byte(sum >> 8), byte(sum)})+record+"\x00")
}

// 18.1, P1: numbers that no int holds, and counts of what is not there
func TestBytesThatTellTooMuch(t *testing.T) {
	greatest := number(math.MaxUint64)
	for what, l := range map[string][]string{
		"items of 64 bits":              {"\x01\x09\x00\x01\x01", greatest, "\x00"},
		"items of 2^32 and 1":           {"\x01\x09\x00\x01\x01", number(1<<32 + 1), "\x00"},
		"items of 2^63 and 1":           {"\x01\x09\x00\x01\x01", number(1<<63 + 1), "\x00"},
		"the most segments":             {"\x01\x09\x00", greatest, "\x01\x01\x00"},
		"2^32 segments and 1":           {"\x01\x09\x00", number(1<<32 + 1), "\x01\x01\x00"},
		"one segment more than told":    {"\x01\x09\x00\x01\x01\x01\x02\x01\x00"},
		"one segment less than told":    {"\x01\x09\x00\x02\x01\x01\x00"},
		"the most dead":                 {"\x01\x09\x00\x00", greatest},
		"one dead more than MaxList":    {"\x01\x09\x00\x00", number(api.MaxList + 1), "\x00"},
		"one dead less than told":       {"\x01\x09\x00\x00\x02\x04\x02\x00"},
		"dead above the greatest":       {"\x01\x09\x00\x00\x01", number(1 << 32), "\x01\x00"},
		"a number of eleven bytes":      {strings.Repeat("\x80", 10), "\x01\x09\x00\x00\x00"},
		"a number of more than 64 bits": {strings.Repeat("\xff", 9), "\x02\x09\x00\x00\x00"},
	} {
		notDecoded(t, what, frame(t, l...))
	}
}

// 18.1, P2
func TestName(t *testing.T) {
	for id, name := range map[uint64]string{
		0: "seg-0000000000", 1: "seg-0000000001", 7: "seg-0000000007", 9: "seg-0000000009", 10: "seg-0000000010", 99: "seg-0000000099", 100: "seg-0000000100",
		1234567890: "seg-1234567890", 999999999: "seg-0999999999", 1<<32 + 1: "seg-4294967297", api.MaxId - 1: "seg-9999999998", api.MaxId: "seg-9999999999",
	} {
		if s, errno := manif.Name(id); s != name || errno != api.OK {
			t.Errorf("Name(%d) = %q, %d, not %q", id, s, errno, name)
		}
	}
	for _, id := range []uint64{api.MaxId + 1, api.MaxId * 10, 1 << 63, math.MaxUint64} {
		if s, errno := manif.Name(id); s != "" || errno != api.ErrRange {
			t.Errorf("Name(%d) = %q, %d, not ErrRange alone", id, s, errno)
		}
	}
}

// randomManifest tells one that is right.
func randomManifest(r *rand.Rand) api.Manifest {
	m := api.Manifest{Gen: 1 + r.Uint64()>>(1+r.Intn(63)), Upto: uint64(r.Int63n(1 + api.MaxId>>r.Intn(33)))}
	for range r.Intn(5) {
		m.Segs = append(m.Segs, api.SegRef{Id: m.Next + uint64(r.Intn(300)), Items: r.Intn(api.MaxItems + 1)})
		m.Next = m.Segs[len(m.Segs)-1].Id + 1
	}
	m.Next += uint64(r.Intn(3))
	for n := r.Uint32() >> r.Intn(32); len(m.Dead) < r.Intn(80) && n < 1<<31; n += 1 + r.Uint32()>>(10+r.Intn(22)) {
		m.Dead = append(m.Dead, n)
	}
	return m
}

// 18.1, P1: bytes are decoded just where they are those that Encode tells
func TestAnyBytesAreAnswered(t *testing.T) {
	r := rand.New(rand.NewSource(1))
	decoded, not := 0, 0
	for range 60000 {
		all := pieces(randomManifest(r))
		switch at := r.Intn(len(all)); r.Intn(4) {
		case 0:
			all[at] = number(r.Uint64() >> r.Intn(64))
		case 1:
			all = slices.Delete(all, at, at+1)
		case 2:
			b := []byte(all[at])
			b[r.Intn(len(b))] ^= 1 << r.Intn(8)
			all[at] = string(b)
		}
		s := frame(t, all...)
		m, errno := manif.Decode(s)
		if errno != api.OK {
			if errno != api.ErrCode || !same(m, api.Manifest{}) {
				t.Fatalf("Decode(%x) = %v, %d", s, m, errno)
			}
			not++
			continue
		}
		decoded++
		if again, errno := manif.Encode(m); again != s || errno != api.OK {
			t.Fatalf("%x is decoded as %v, and that encoded as %x, %d", s, m, again, errno)
		}
	}
	if decoded < 10000 || not < 10000 {
		t.Errorf("%d were decoded, %d not", decoded, not)
	}
}

// file is one all of whose bytes are synced.
func file(name, data string) api.File {
	return api.File{Name: name, Data: data, Synced: len(data)}
}

// system tells a file system of files, whose names rise.
func system(files ...api.File) api.Fs {
	return api.Fs{Room: api.MaxRoom, Fuse: -1, Fault: -1, Files: files}
}

// down tells d without power.
func down(d api.Fs) api.Fs {
	d.Down = true
	return d
}

// wrongDisks are file systems that are not right.
func wrongDisks() map[string]api.Fs {
	return map[string]api.Fs{
		"a fuse below -1":   {Room: 99, Fuse: -2, Fault: -1},
		"a fault below -1":  {Room: 99, Fuse: -1, Fault: -2},
		"a room below 0":    {Room: -1, Fuse: -1, Fault: -1},
		"too few room":      {Room: 1, Fuse: -1, Fault: -1, Files: []api.File{file("seg-", "ab")}},
		"names that fall":   system(file("seg-2", ""), file("seg-1", "")),
		"a name twice":      system(file("index", ""), file("index", "")),
		"no name":           system(file("", "")),
		"wrong, and down":   {Room: -1, Fuse: -1, Fault: -1, Down: true},
		"synced above":      system(api.File{Name: "index.new", Synced: 1}),
		"wrong, with index": system(file("index.new", ""), file("index", "")),
	}
}

// 18.2, P2
func TestLoad(t *testing.T) {
	for what, m := range right() {
		d := system(file("box", "x"), file("index", encode(t, m)), file("index.new", "y"))
		if n, errno := manif.Load(d); !same(n, m) || errno != api.OK {
			t.Errorf("Load of %s: %d", what, errno)
		}
	}
	good := encode(t, some())
	loads := func(what string, d api.Fs, want api.Errno) {
		t.Helper()
		if m, errno := manif.Load(d); !same(m, api.Manifest{}) || errno != want {
			t.Errorf("Load of %s: %v, %d, not %d alone", what, m, errno, want)
		}
	}
	loads("nothing", system(), api.ErrNone)
	loads("a zero disk", api.Fs{}, api.ErrNone)
	loads("other files", system(file("inde", good), file("index.new", good), file("indexx", good)), api.ErrNone)
	loads("an empty file", system(file("index", "")), api.ErrCode)
	loads("no manifest", system(file("index", "x"), file("index.new", good)), api.ErrCode)
	loads("a manifest that is cut", system(file("index", good[:len(good)-1])), api.ErrCode)
	loads("a manifest and a byte", system(file("index", good+"\x00")), api.ErrCode)
	loads("a manifest without power", down(system(file("index", good))), api.ErrPower)
	for what, d := range wrongDisks() {
		loads(what, d, api.ErrForm)
	}
	waiting := system(api.File{Name: "index", Data: good})
	if m, errno := manif.Load(waiting); !same(m, some()) || errno != api.OK {
		t.Errorf("Load of what waits to be synced: %v, %d", m, errno)
	}
}

// 18.2
func TestCommit(t *testing.T) {
	next := some()
	next.Gen++
	old, box, seg := file("index", encode(t, some())), file("box", "abc"), file("seg-0000000001", "s")
	for what, d := range map[string]api.Fs{
		"nothing":                 system(),
		"a manifest":              system(box, old, seg),
		"what is no manifest":     system(box, file("index", "x"), seg),
		"one that was begun":      system(box, file("index.new", "left over"), seg),
		"one beside one begun":    system(box, old, api.File{Name: "index.new", Data: "left over", Synced: 2}, seg),
		"one begun that is whole": system(old, file("index.new", encode(t, next))),
	} {
		for _, m := range []api.Manifest{next, {Gen: 1}, some()} {
			var files []api.File
			for _, f := range d.Files {
				if f == box || f == seg {
					files = append(files, f)
				}
			}
			files = append(files, file("index", encode(t, m)))
			slices.SortFunc(files, func(a, b api.File) int { return strings.Compare(a.Name, b.Name) })
			got, errno := manif.Commit(d, m)
			if !sameFs(got, system(files...)) || errno != api.OK {
				t.Errorf("Commit beside %s: %v, %d", what, got, errno)
			}
			if n, errno := manif.Load(got); !same(n, m) || errno != api.OK {
				t.Errorf("committed beside %s, Load tells %v, %d", what, n, errno)
			}
			crashed, _ := disk.Crash(got)
			if n, errno := manif.Load(crashed); !same(n, m) || errno != api.OK {
				t.Errorf("committed beside %s, behind a crash Load tells %v, %d", what, n, errno)
			}
		}
	}
}

// 18.2, P2
func TestCommitOfWhatIsNotRight(t *testing.T) {
	good := encode(t, some())
	files := []api.File{file("box", "abc"), {Name: "index", Data: good, Synced: 3}, file("index.new", "x")}
	for _, d := range []api.Fs{system(), {}, system(files...), down(system(files...)), {Room: 200, Files: files}, {Room: 200, Files: files, Fuse: 3, Fault: 4}} {
		for what, m := range wrong() {
			if got, errno := manif.Commit(d, m); !sameFs(got, d) || errno != api.ErrForm {
				t.Errorf("Commit of %s: %v, %d, not ErrForm and the disk as it was", what, got, errno)
			}
			if got, errno := manif.Collect(d, m); !sameFs(got, d) || errno != api.ErrForm {
				t.Errorf("Collect with %s: %v, %d, not ErrForm and the disk as it was", what, got, errno)
			}
			if l, errno := manif.Orphans(d, m); len(l) != 0 || errno != api.ErrForm {
				t.Errorf("Orphans with %s: %q, %d, not ErrForm alone", what, l, errno)
			}
		}
	}
	for what, d := range wrongDisks() {
		for _, m := range []api.Manifest{some(), {Gen: 1}, {}, wrong()["dead twice"]} {
			if got, errno := manif.Commit(d, m); !sameFs(got, api.Fs{}) || errno != api.ErrForm {
				t.Errorf("Commit to %s: %v, %d, not ErrForm alone", what, got, errno)
			}
			if got, errno := manif.Collect(d, m); !sameFs(got, api.Fs{}) || errno != api.ErrForm {
				t.Errorf("Collect of %s: %v, %d, not ErrForm alone", what, got, errno)
			}
			if l, errno := manif.Orphans(d, m); len(l) != 0 || errno != api.ErrForm {
				t.Errorf("Orphans of %s: %q, %d, not ErrForm alone", what, l, errno)
			}
		}
	}
}

// stage is how a disk is behind some steps of a Commit.
type stage struct {
	files []api.File
	torn  []api.File // if the power goes in the next step
}

// stages tells those of a Commit of next, from the beginning on, to a disk with an old manifest, with index.new there, or not.
func stages(t *testing.T, next api.Manifest, there bool) []stage {
	box, old, seg := file("box", "abc"), file("index", encode(t, some())), file("seg-0000000001", "s")
	s := encode(t, next)
	begun, put := api.File{Name: "index.new"}, api.File{Name: "index.new", Data: s}
	with := func(f ...api.File) []api.File { return slices.Concat([]api.File{box}, f, []api.File{seg}) }
	l := []stage{
		{with(old), with(old)},
		{with(old, begun), with(old, put)},
		{with(old, put), with(old, put)},
		{with(old, file("index.new", s)), with(old, file("index.new", s))},
		{with(file("index", s)), with(file("index", s))},
	}
	if there {
		left := with(old, api.File{Name: "index.new", Data: "left over", Synced: 4})
		l = slices.Insert(l, 0, stage{left, left})
	}
	return l
}

// oldOrNew sees that, behind crashes that keep anything, Load tells the old one, or next, if it may be that already.
func oldOrNew(t *testing.T, what string, d api.Fs, next api.Manifest, done bool) {
	t.Helper()
	for keep := -1; keep < 60; keep++ {
		crashed, errno := disk.Crash(d, slices.Repeat([]int{keep}, len(d.Files))...)
		if errno != api.OK {
			t.Fatalf("Crash: %d", errno)
		}
		want := some()
		if done {
			want = next
		}
		if m, errno := manif.Load(crashed); !same(m, want) || errno != api.OK {
			t.Errorf("%s: crashed keeping %d, Load tells %v, %d", what, keep, m, errno)
		}
	}
	d.Down = false
	if m, errno := manif.Load(d); errno != api.OK || done && !same(m, next) || !done && !same(m, some()) {
		t.Errorf("%s: Load tells %v, %d", what, m, errno)
	}
}

// 18.2, 18.5
func TestCommitThatFailsAtEachStep(t *testing.T) {
	next := some()
	next.Gen++
	next.Dead = append(next.Dead, 1000)
	for _, there := range []bool{false, true} {
		l := stages(t, next, there)
		last := len(l) - 1
		start := system(l[0].files...)
		for at := range l {
			what := fmt.Sprintf("at step %d of %d", at, last)
			power, fault := start, start
			power.Fuse, fault.Fault = at, at
			wantPower, wantFault := system(l[at].torn...), system(l[at].files...)
			errnos := []api.Errno{api.ErrPower, api.ErrFault}
			wantPower.Fuse, wantPower.Down = 0, true
			if at == last {
				errnos = []api.Errno{api.OK, api.OK}
				wantPower.Down, wantFault.Fault = false, 0
			}
			got, errno := manif.Commit(power, next)
			if !sameFs(got, wantPower) || errno != errnos[0] {
				t.Errorf("the power goes %s: %v, %d, not %v", what, got, errno, wantPower)
			}
			oldOrNew(t, "the power goes "+what, got, next, at == last)
			got, errno = manif.Commit(fault, next)
			if !sameFs(got, wantFault) || errno != errnos[1] {
				t.Errorf("a fault %s: %v, %d, not %v", what, got, errno, wantFault)
			}
			oldOrNew(t, "a fault "+what, got, next, at == last)
			if at < last { // what is left over is in nobody's way
				if got, errno = manif.Commit(got, next); !sameFs(got, system(l[last].files...)) || errno != api.OK {
					t.Errorf("once more behind a fault %s: %v, %d", what, got, errno)
				}
			}
		}
		dead, errno := manif.Commit(down(start), next)
		if !sameFs(dead, down(start)) || errno != api.ErrPower {
			t.Errorf("Commit without power: %v, %d", dead, errno)
		}
	}
}

// 18.2, 18.5
func TestCommitWithoutRoom(t *testing.T) {
	next := some()
	next.Gen++
	old, s := encode(t, some()), encode(t, next)
	left := strings.Repeat("x", len(s))
	for _, there := range []bool{false, true} {
		d := system(file("index", old))
		if there {
			d.Files = append(d.Files, file("index.new", left))
		}
		d.Room = len(old) + len(s)
		if got, errno := manif.Commit(d, next); errno != api.OK || !slices.Equal(got.Files, []api.File{file("index", s)}) {
			t.Errorf("with just enough room: %v, %d", got, errno)
		}
		d.Room--
		if there {
			d.Files[1] = file("index.new", left[1:])
		}
		got, errno := manif.Commit(d, next)
		if errno != api.ErrFull || !slices.Equal(got.Files, []api.File{file("index", old), {Name: "index.new"}}) || got.Room != d.Room {
			t.Errorf("with a byte too few of room: %v, %d", got, errno)
		}
		oldOrNew(t, "with a byte too few of room", got, next, false)
	}
	d := system(file("index", old))
	for i := range api.MaxFiles - 1 {
		d.Files = append(d.Files, file(fmt.Sprintf("s%04d", i), ""))
	}
	if got, errno := manif.Commit(d, next); !sameFs(got, d) || errno != api.ErrFull {
		t.Errorf("with MaxFiles files: %d files, %d", len(got.Files), errno)
	}
	d.Files[1] = file("index.new", "x")
	if got, errno := manif.Commit(d, next); len(got.Files) != api.MaxFiles-1 || got.Files[0] != file("index", s) || errno != api.OK {
		t.Errorf("with MaxFiles files, index.new among them: %d files, %d", len(got.Files), errno)
	}
}

// litter is a disk with all names that are, or might be, segments' files.
func litter() api.Fs {
	return system(
		file("Seg-0000000001", "n"), file("box", "b"), file("index", "i"), file("index.ne", "n"), file("index.new", "x"), file("index.new.new", "n"),
		file("seg", "n"), file("seg-", "x"), file("seg-0000000000", "0"), file("seg-0000000001", "1"), file("seg-00000000010", "x"), file("seg-0000000002", "2"), file("seg-000000001", "x"),
		file("seg-0000000010", "10"), file("seg-1", "x"), file("seg-9999999998", "9"), file("seg-9999999999", "x"), file("seg-x", "x"), file("seg0000000001", "n"), file("xseg-1", "n"),
	)
}

// named tells a manifest of segments.
func named(ids ...uint64) api.Manifest {
	return api.Manifest{Gen: 1, Next: api.MaxId, Segs: refs(ids...)}
}

// 18.3
func TestOrphans(t *testing.T) {
	never := []string{"index.new", "seg-", "seg-00000000010", "seg-000000001", "seg-1", "seg-9999999999", "seg-x"}
	for _, c := range []struct {
		m    api.Manifest
		more []string
	}{
		{named(0, 1, 2, 10, api.MaxId-1), nil},
		{named(), []string{"seg-0000000000", "seg-0000000001", "seg-0000000002", "seg-0000000010", "seg-9999999998"}},
		{api.Manifest{Gen: 1}, []string{"seg-0000000000", "seg-0000000001", "seg-0000000002", "seg-0000000010", "seg-9999999998"}},
		{named(1), []string{"seg-0000000000", "seg-0000000002", "seg-0000000010", "seg-9999999998"}},
		{named(0, 10, 11), []string{"seg-0000000001", "seg-0000000002", "seg-9999999998"}},
		{named(2, 3, 100, 1000000000, api.MaxId-1), []string{"seg-0000000000", "seg-0000000001", "seg-0000000010"}},
	} {
		want := slices.Concat(never, c.more)
		slices.Sort(want)
		l, errno := manif.Orphans(litter(), c.m)
		if !slices.Equal(l, want) || errno != api.OK {
			t.Errorf("Orphans with %v: %q, %d, not %q", c.m.Segs, l, errno, want)
		}
		got, errno := manif.Collect(litter(), c.m)
		files := slices.DeleteFunc(litter().Files, func(f api.File) bool { return slices.Contains(want, f.Name) })
		if !sameFs(got, system(files...)) || errno != api.OK {
			t.Errorf("Collect with %v: %v, %d", c.m.Segs, got, errno)
		}
		if l, errno := manif.Orphans(got, c.m); len(l) != 0 || errno != api.OK {
			t.Errorf("collected with %v, there are %q, %d", c.m.Segs, l, errno)
		}
	}
	for _, d := range []api.Fs{system(), {}, system(file("box", ""), file("index", ""), file("seg-0000000001", "1"))} {
		if l, errno := manif.Orphans(d, named(1)); len(l) != 0 || errno != api.OK {
			t.Errorf("Orphans where there are none: %q, %d", l, errno)
		}
		if got, errno := manif.Collect(d, named(1)); !sameFs(got, d) || errno != api.OK {
			t.Errorf("Collect where there are none: %v, %d", got, errno)
		}
	}
	if l, errno := manif.Orphans(down(litter()), named(1)); len(l) != 0 || errno != api.ErrPower {
		t.Errorf("Orphans without power: %q, %d", l, errno)
	}
	for _, m := range []api.Manifest{named(), named(1)} {
		if got, errno := manif.Collect(down(litter()), m); !sameFs(got, down(litter())) || errno != api.ErrPower {
			t.Errorf("Collect without power: %v, %d", got, errno)
		}
	}
}

// 18.3
func TestCollectThatFailsAtEachStep(t *testing.T) {
	m := named(0, 2)
	orphans, _ := manif.Orphans(litter(), m)
	for at := range len(orphans) + 1 {
		files := slices.DeleteFunc(litter().Files, func(f api.File) bool { return slices.Contains(orphans[:at], f.Name) })
		power, fault := litter(), litter()
		power.Fuse, fault.Fault = at, at
		wantPower, wantFault := system(files...), system(files...)
		errnos := []api.Errno{api.ErrPower, api.ErrFault}
		wantPower.Fuse, wantPower.Down = 0, true
		if at == len(orphans) {
			errnos = []api.Errno{api.OK, api.OK}
			wantPower.Down, wantFault.Fault = false, 0
		}
		if got, errno := manif.Collect(power, m); !sameFs(got, wantPower) || errno != errnos[0] {
			t.Errorf("the power goes at step %d: %v, %d", at, got, errno)
		}
		if got, errno := manif.Collect(fault, m); !sameFs(got, wantFault) || errno != errnos[1] {
			t.Errorf("a fault at step %d: %v, %d", at, got, errno)
		}
	}
}

// 18.3: a disk that has as many files as may be
func TestCollectOfMany(t *testing.T) {
	d := system(file("box", strings.Repeat("x", 1<<16)))
	for i := range api.MaxFiles - 1 {
		name, _ := manif.Name(uint64(i))
		d.Files = append(d.Files, file(name, ""))
	}
	got, errno := manif.Collect(d, named(5, 700))
	if names, _ := disk.List(got); !slices.Equal(names, []string{"box", "seg-0000000005", "seg-0000000700"}) || errno != api.OK {
		t.Errorf("Collect leaves %q, %d", names, errno)
	}
}

// shares tells whether two texts have a byte of memory together.
func shares(a, b string) bool {
	if a == "" || b == "" {
		return false
	}
	x, y := uintptr(unsafe.Pointer(unsafe.StringData(a))), uintptr(unsafe.Pointer(unsafe.StringData(b)))
	return x < y+uintptr(len(b)) && y < x+uintptr(len(a))
}

// apart sees that no two texts share memory.
func apart(t *testing.T, what string, texts []string) {
	t.Helper()
	for i := range texts {
		for j := range i {
			if shares(texts[i], texts[j]) {
				t.Errorf("%s: texts %d and %d share their memory", what, j, i)
			}
		}
	}
}

// textsOf tells all texts of a file system.
func textsOf(d api.Fs) []string {
	var l []string
	for _, f := range d.Files {
		l = append(l, f.Name, f.Data)
	}
	return l
}

// own copies a disk with the bytes of its texts: texts that are written down may share memory from the start.
func own(d api.Fs) api.Fs {
	d.Files = slices.Clone(d.Files)
	for i, f := range d.Files {
		d.Files[i] = api.File{Name: strings.Clone(f.Name), Data: strings.Clone(f.Data), Synced: f.Synced}
	}
	return d
}

// 18.4
func TestDisksAreNewMemory(t *testing.T) {
	fused := litter()
	fused.Fuse = 2
	for i, d := range []api.Fs{litter(), down(litter()), fused, system(file("box", "abc"))} {
		d = own(d)
		given := own(d)
		texts := textsOf(d)
		var answers []api.Fs
		for range 2 {
			for _, m := range []api.Manifest{some(), {}, named(1)} {
				committed, _ := manif.Commit(d, m)
				collected, _ := manif.Collect(d, m)
				answers = append(answers, committed, collected)
				orphans, _ := manif.Orphans(d, m)
				texts = append(texts, orphans...)
			}
		}
		for _, a := range answers {
			texts = append(texts, textsOf(a)...)
		}
		apart(t, fmt.Sprintf("disk %d", i), texts)
		for _, a := range answers {
			for j := range a.Files {
				a.Files[j] = file("changed", "changed")
			}
			_ = append(a.Files[:0], file("changed", "changed"))
		}
		if !sameFs(d, given) {
			t.Errorf("disk %d is changed, or shares memory with an answer", i)
		}
	}
}

// 18.4
func TestManifestsAreNewMemory(t *testing.T) {
	m := some()
	m.Segs, m.Dead = append(make([]api.SegRef, 0, 9), m.Segs...), append(make([]uint32, 0, 9), m.Dead...)
	s := encode(t, m)
	d := system(file(strings.Clone("index"), s))
	name, _ := manif.Name(1234567890)
	again, _ := manif.Name(1234567890)
	apart(t, "bytes and names", []string{s, encode(t, m), encode(t, m), name, again})
	decode := func() api.Manifest { n, _ := manif.Decode(s); return n }
	load := func() api.Manifest { n, _ := manif.Load(d); return n }
	for _, call := range []func() api.Manifest{decode, load} {
		first, second := call(), call()
		for i := range first.Segs {
			first.Segs[i] = api.SegRef{Id: 99}
		}
		for i := range first.Dead {
			first.Dead[i] = 99
		}
		_, _ = append(first.Segs[:1], api.SegRef{Id: 98}), append(first.Dead[:1], 98)
		if !same(second, some()) || !same(call(), some()) {
			t.Errorf("an answer that was changed changes another one: %v", second)
		}
	}
	d, _ = manif.Commit(d, m)
	_, _ = manif.Orphans(d, m)
	d, _ = manif.Collect(d, m)
	if !same(m, some()) {
		t.Errorf("what is handed in is changed: %v", m)
	}
	m.Dead[0], m.Segs[0].Id = 0, 0
	if n, errno := manif.Load(d); !same(n, some()) || errno != api.OK {
		t.Errorf("a manifest that was handed in is kept: %v, %d", n, errno)
	}
}

// plainCommit does the steps just as the chapter words them.
func plainCommit(d api.Fs, m api.Manifest) (api.Fs, api.Errno) {
	if disk.Check(d) != api.OK {
		return api.Fs{}, api.ErrForm
	}
	s, errno := manif.Encode(m)
	if errno != api.OK {
		return d, errno
	}
	steps := []func() (api.Fs, api.Errno){
		func() (api.Fs, api.Errno) { return disk.Create(d, "index.new") },
		func() (api.Fs, api.Errno) { return disk.Append(d, "index.new", s) },
		func() (api.Fs, api.Errno) { return disk.Sync(d, "index.new") },
		func() (api.Fs, api.Errno) { return disk.Rename(d, "index.new", "index") },
	}
	if names, _ := disk.List(d); slices.Contains(names, "index.new") {
		steps = slices.Insert(steps, 0, func() (api.Fs, api.Errno) { return disk.Delete(d, "index.new") })
	}
	for _, step := range steps {
		if d, errno = step(); errno != api.OK {
			return d, errno
		}
	}
	return d, api.OK
}

// randomDisk tells one that may have anything, in little room, and be about to fail; what index has is synced.
func randomDisk(t *testing.T, r *rand.Rand) api.Fs {
	d := api.Fs{Room: r.Intn(400), Fuse: r.Intn(8) - 1, Fault: r.Intn(8) - 1, Down: r.Intn(20) == 0}
	for _, f := range litter().Files {
		if r.Intn(3) == 0 {
			f.Synced = r.Intn(len(f.Data) + 1)
			d.Files = append(d.Files, f)
		}
	}
	for i := range d.Files {
		f := &d.Files[i]
		if strings.HasPrefix(f.Name, "index") && r.Intn(4) > 0 {
			f.Data = encode(t, randomManifest(r))
		}
		if f.Name == "index" {
			f.Synced = len(f.Data)
		}
	}
	return d
}

// told is what Load answers.
type told struct {
	m     api.Manifest
	errno api.Errno
}

// load tells what Load answers of a disk that has power.
func load(d api.Fs) told {
	d.Down = false
	m, errno := manif.Load(d)
	return told{m, errno}
}

// 18.2, 18.3, 18.5, P1 to P4
func TestOldOrNew(t *testing.T) {
	ahead := runtime.NumGoroutine()
	r := rand.New(rand.NewSource(2))
	errnos := map[api.Errno]int{}
	for range 20000 {
		d, m := randomDisk(t, r), randomManifest(r)
		if r.Intn(20) == 0 {
			m.Gen = 0
		}
		want, wantErrno := plainCommit(d, m)
		got, errno := manif.Commit(d, m)
		if !sameFs(got, want) || errno != wantErrno {
			t.Fatalf("Commit(%v, %v) = %v, %d, not %v, %d", d, m, got, errno, want, wantErrno)
		}
		errnos[errno]++
		if errno == api.ErrForm && manif.Check(m) == api.OK {
			continue
		}
		keep := make([]int, len(got.Files))
		for i := range keep {
			keep[i] = r.Intn(300) - 1
		}
		crashed, _ := disk.Crash(got, keep...)
		for _, behind := range []told{load(got), load(crashed)} {
			old := load(d)
			if disk.Check(d) != api.OK {
				old = load(got)
			}
			isOld, isNew := behind.errno == old.errno && same(behind.m, old.m), behind.errno == api.OK && same(behind.m, m)
			if errno == api.OK && !isNew || !isOld && !isNew {
				t.Fatalf("Commit(%v, %v): %d, and then Load tells %v", d, m, errno, behind)
			}
		}
	}
	for _, errno := range []api.Errno{api.OK, api.ErrForm, api.ErrFull, api.ErrPower, api.ErrFault} {
		if errnos[errno] < 200 {
			t.Errorf("the errors were %v", errnos)
		}
	}
	if behind := runtime.NumGoroutine(); behind > ahead { // fewer, if that of an earlier test was just ending
		t.Errorf("%d goroutines ahead, %d behind", ahead, behind)
	}
}
