package store_test

import (
	"fmt"
	"math"
	"math/rand"
	"reflect"
	"runtime"
	"slices"
	"strings"
	"testing"
	"unsafe"

	"missive/api"
	"missive/box"
	"missive/disk"
	"missive/log"
	"missive/store"
)

// The signatures that the chapter lists.
var (
	_ func(api.Fs, uint32) (api.Fs, api.Errno)               = store.Make
	_ func(api.Fs) (api.Box, api.Errno)                      = store.Load
	_ func(api.Fs) (uint64, api.Errno)                       = store.Count
	_ func(api.Fs, api.Change) (api.Fs, []uint32, api.Errno) = store.Do
	_ func(api.Fs) (api.Fs, api.Errno)                       = store.Recover
)

// file is one all of whose bytes are synced.
func file(name, data string) api.File {
	return api.File{Name: name, Data: data, Synced: len(data)}
}

// system tells a file system of files, whose names rise.
func system(files ...api.File) api.Fs {
	return api.Fs{Room: api.MaxRoom, Fuse: -1, Fault: -1, Files: files}
}

// down tells d without power.
func down(d api.Fs) api.Fs {
	d.Down = true
	return d
}

// sameFs takes nil and empty lists as alike.
func sameFs(a, b api.Fs) bool {
	files := slices.Equal(a.Files, b.Files)
	a.Files, b.Files = nil, nil
	return files && reflect.DeepEqual(a, b)
}

// sameBox is sameFs of boxes.
func sameBox(a, b api.Box) bool {
	messages := slices.Equal(a.Messages, b.Messages)
	a.Messages, b.Messages = nil, nil
	return messages && reflect.DeepEqual(a, b)
}

// wrongDisks are file systems that are not right.
func wrongDisks() map[string]api.Fs {
	whole := boxText(3, changes()...)
	return map[string]api.Fs{
		"a fuse below -1":       {Room: api.MaxRoom, Fuse: -2, Fault: -1, Files: []api.File{file("box", whole)}},
		"a fault below -1":      {Room: api.MaxRoom, Fuse: -1, Fault: -2, Files: []api.File{file("box", whole)}},
		"a room below 0":        {Room: -1, Fuse: -1, Fault: -1},
		"too few room":          {Room: 1, Fuse: -1, Fault: -1, Files: []api.File{file("box", whole)}},
		"too much room":         {Room: api.MaxRoom + 1, Fuse: -1, Fault: -1, Files: []api.File{file("box", whole)}},
		"names that fall":       system(file("box", whole), file("a", "")),
		"a box twice":           system(file("box", whole), file("box", whole)),
		"no name":               system(file("", ""), file("box", whole)),
		"wrong, and down":       {Room: -1, Fuse: -1, Fault: -1, Down: true},
		"synced above":          system(api.File{Name: "box", Data: whole, Synced: len(whole) + 1}),
		"synced below 0":        system(api.File{Name: "box.new", Synced: -1}),
		"wrong, without a box":  system(file("index.new", ""), file("index", "")),
		"wrong, no log in it":   system(file("box", "x"), file("box", "y")),
		"wrong, a torn box too": system(file("box", whole[:len(whole)-1]), file("a", "")),
	}
}

// changes are some that are done one behind the other.
func changes() []api.Change {
	return []api.Change{
		{Kind: api.ChangeAppend, Flags: api.FlagSeen, Inner: api.Time{Day: 9531, Second: 4000, Zone: -90}, Raw: "A: b\n\nc"},
		{Kind: api.ChangeAppend},
		{Kind: api.ChangeSelect},
		{Kind: api.ChangeAdd, Uids: []uint32{1, 2}, Flags: api.FlagDeleted},
		{Kind: api.ChangeExpunge, Uids: []uint32{2, 5}},
		{Kind: api.ChangeAppend, Inner: api.Time{Day: -3}, Raw: "\n\x00\xff"},
	}
}

// wrongChanges are changes that are not right.
func wrongChanges() map[string]api.Change {
	return map[string]api.Change{
		"none":                       {},
		"a kind one too great":       {Kind: api.ChangeCount},
		"an append with a number":    {Kind: api.ChangeAppend, Uids: []uint32{1}},
		"an append of no flag":       {Kind: api.ChangeAppend, Flags: api.FlagAll + 1},
		"an append of too much":      {Kind: api.ChangeAppend, Raw: strings.Repeat("x", api.MaxMail+1)},
		"an append at no time":       {Kind: api.ChangeAppend, Inner: api.Time{Second: -1}},
		"flags of a list that falls": {Kind: api.ChangeSet, Uids: []uint32{2, 1}},
		"an expunge with flags":      {Kind: api.ChangeExpunge, Uids: []uint32{1}, Flags: api.FlagSeen},
		"a select of a mail":         {Kind: api.ChangeSelect, Uids: []uint32{1}},
	}
}

// boxText tells a log's bytes.
func boxText(validity uint32, l ...api.Change) string {
	s, errno := log.Begin(validity)
	if errno != api.OK {
		panic(errno)
	}
	for _, c := range l {
		s += frame(c)
	}
	return s
}

// frame tells the record of a change that is right.
func frame(c api.Change) string {
	s, errno := log.Frame(c)
	if errno != api.OK {
		panic(errno)
	}
	return s
}

// boxOf tells the box behind these changes.
func boxOf(t *testing.T, validity uint32, l ...api.Change) api.Box {
	t.Helper()
	b, errno := box.Make(validity)
	for _, c := range l {
		if errno == api.OK {
			b, _, errno = box.Do(b, c)
		}
	}
	if errno != api.OK {
		t.Fatalf("the box: %d", errno)
	}
	return b
}

// loads sees that a disk has that box, of so many records.
func loads(t *testing.T, what string, d api.Fs, want api.Box, records int) {
	t.Helper()
	if b, errno := store.Load(d); !sameBox(b, want) || errno != api.OK {
		t.Errorf("%s: Load tells %v, %d, not %v", what, b, errno, want)
	}
	if n, errno := store.Count(d); n != uint64(records) || errno != api.OK {
		t.Errorf("%s: Count tells %d, %d, not %d", what, n, errno, records)
	}
}

// notLoaded sees that a disk has none.
func notLoaded(t *testing.T, what string, d api.Fs, want api.Errno) {
	t.Helper()
	if b, errno := store.Load(d); !sameBox(b, api.Box{}) || errno != want {
		t.Errorf("%s: Load tells %v, %d, not %d alone", what, b, errno, want)
	}
	if n, errno := store.Count(d); n != 0 || errno != want {
		t.Errorf("%s: Count tells %d, %d, not %d alone", what, n, errno, want)
	}
}

// crashes tells what may be of a disk behind a crash: each file with so many bytes more.
func crashes(t *testing.T, d api.Fs) []api.Fs {
	t.Helper()
	most := 0
	for _, f := range d.Files {
		most = max(most, len(f.Data)-f.Synced)
	}
	var l []api.Fs
	for keep := range most + 1 {
		crashed, errno := disk.Crash(d, slices.Repeat([]int{keep}, len(d.Files))...)
		if errno != api.OK {
			t.Fatalf("Crash: %d", errno)
		}
		l = append(l, crashed)
	}
	return l
}

// 21.1, 21.2: the document's example too
func TestMadeAndAppended(t *testing.T) {
	d, errno := disk.Make(900)
	if errno != api.OK {
		t.Fatalf("disk.Make: %d", errno)
	}
	for _, validity := range []uint32{1, 2, 300, math.MaxUint32} {
		made, errno := store.Make(d, validity)
		want := system(file("box", boxText(validity)))
		want.Room = 900
		if !sameFs(made, want) || errno != api.OK {
			t.Fatalf("Make of %d: %v, %d", validity, made, errno)
		}
		loads(t, "made", made, api.Box{Validity: validity, Next: 1}, 1)
		done, uids, errno := store.Do(made, api.Change{Kind: api.ChangeAppend, Raw: "x"})
		if !slices.Equal(uids, []uint32{1}) || errno != api.OK {
			t.Fatalf("appended: %d, %d", uids, errno)
		}
		loads(t, "appended", done, api.Box{Validity: validity, Next: 2, Messages: []api.Message{{Uid: 1, Raw: "x"}}}, 2)
	}
}

// 21.1
func TestMakeBesideOtherFiles(t *testing.T) {
	ahead, behind := file("aa", "x"), api.File{Name: "bp", Data: "yyy", Synced: 1}
	near := file("BOX", boxText(4))
	for what, left := range map[string][]api.File{
		"nothing":          nil,
		"one that is left": {file("box.new", "left over")},
		"an empty one":     {{Name: "box.new"}},
		"a whole one":      {file("box.new", boxText(9, changes()...))},
		"one that waits":   {{Name: "box.new", Data: boxText(7), Synced: 2}},
	} {
		d := system(slices.Concat([]api.File{near, ahead}, left, []api.File{behind})...)
		got, errno := store.Make(d, 7)
		if !sameFs(got, system(near, ahead, file("box", boxText(7)), behind)) || errno != api.OK {
			t.Errorf("Make beside %s: %v, %d", what, got, errno)
		}
	}
}

// 21.1, P2, P3
func TestMakeThatIsRefused(t *testing.T) {
	whole := boxText(3, changes()...)
	for what, d := range map[string]api.Fs{
		"a whole box":    system(file("box", whole)),
		"a torn box":     system(file("a", "x"), api.File{Name: "box", Data: whole[:len(whole)-1], Synced: 4}, file("box.new", "y")),
		"no log":         system(file("box", "x")),
		"an empty file":  system(file("box", "")),
		"a fuse at hand": {Room: 9, Files: []api.File{file("box", "x")}},
	} {
		for _, validity := range []uint32{0, 1, math.MaxUint32} {
			if got, errno := store.Make(d, validity); !sameFs(got, d) || errno != api.ErrTwice {
				t.Errorf("Make of %d beside %s: %v, %d, not ErrTwice and the disk as it was", validity, what, got, errno)
			}
			if got, errno := store.Make(down(d), validity); !sameFs(got, down(d)) || errno != api.ErrPower {
				t.Errorf("Make of %d beside %s, without power: %v, %d, not ErrPower and the disk as it was", validity, what, got, errno)
			}
		}
	}
	for _, d := range []api.Fs{{}, system(), system(file("a", "b"), file("box.new", "x")), {Room: 9, Fuse: 0, Fault: 0, Files: []api.File{file("a", "b")}}} {
		if got, errno := store.Make(d, 0); !sameFs(got, d) || errno != api.ErrRange {
			t.Errorf("Make of 0: %v, %d, not ErrRange and the disk as it was", got, errno)
		}
		for _, validity := range []uint32{0, 5} {
			if got, errno := store.Make(down(d), validity); !sameFs(got, down(d)) || errno != api.ErrPower {
				t.Errorf("Make without power: %v, %d, not ErrPower and the disk as it was", got, errno)
			}
		}
	}
	for what, d := range wrongDisks() {
		for _, validity := range []uint32{0, 5} {
			if got, errno := store.Make(d, validity); !sameFs(got, api.Fs{}) || errno != api.ErrForm {
				t.Errorf("Make on %s: %v, %d, not ErrForm alone", what, got, errno)
			}
		}
	}
}

// stage is how a disk is behind some steps.
type stage struct {
	files []api.File
	torn  []api.File // if the power goes in the next step
}

// makeStages tells those of a Make, from the beginning on, with box.new there, or not.
func makeStages(there bool) []stage {
	ahead, behind, s := file("a", "abc"), api.File{Name: "c", Data: "cd", Synced: 1}, boxText(4)
	with := func(f ...api.File) []api.File { return slices.Concat([]api.File{ahead}, f, []api.File{behind}) }
	begun, put := api.File{Name: "box.new"}, api.File{Name: "box.new", Data: s}
	l := []stage{
		{with(), with()},
		{with(begun), with(put)},
		{with(put), with(put)},
		{with(file("box.new", s)), with(file("box.new", s))},
		{with(file("box", s)), with(file("box", s))},
	}
	if there {
		left := with(api.File{Name: "box.new", Data: "left over", Synced: 4})
		l = slices.Insert(l, 0, stage{left, left})
	}
	return l
}

// failing tells what is to be of a disk that fails at each stage: the disk to begin with, the one that is left, and the error.
func failing(l []stage, at int, power bool) (api.Fs, api.Fs, api.Errno) {
	d, want := system(l[0].files...), system(l[at].files...)
	last := at == len(l)-1
	if power {
		d.Fuse, want.Fuse, want.Down, want.Files = at, 0, !last, l[at].torn
	} else {
		d.Fault = at
	}
	switch {
	case last && power:
		return d, want, api.OK
	case last:
		want.Fault = 0
		return d, want, api.OK
	case power:
		return d, want, api.ErrPower
	}
	return d, want, api.ErrFault
}

// 21.1: each failure at each place
func TestMakeThatFailsAtEachStep(t *testing.T) {
	for _, there := range []bool{false, true} {
		l := makeStages(there)
		for at := range l {
			for _, power := range []bool{true, false} {
				what := fmt.Sprintf("box.new there: %v, at step %d, the power: %v", there, at, power)
				d, want, wantErrno := failing(l, at, power)
				got, errno := store.Make(d, 4)
				if !sameFs(got, want) || errno != wantErrno {
					t.Errorf("%s: %v, %d, not %v, %d", what, got, errno, want, wantErrno)
				}
				for _, crashed := range crashes(t, got) { // there is no box, or a whole one
					if errno == api.OK {
						loads(t, what, crashed, api.Box{Validity: 4, Next: 1}, 1)
						continue
					}
					notLoaded(t, what, crashed, api.ErrNone)
					again, errno := store.Make(crashed, 4)
					if errno != api.OK {
						t.Errorf("%s: made again: %d", what, errno)
					}
					loads(t, what, again, api.Box{Validity: 4, Next: 1}, 1)
				}
			}
		}
	}
}

// 21.1
func TestMakeWithoutRoom(t *testing.T) {
	s := boxText(4)
	for room := range len(s) + 1 {
		d := system(file("a", "abc"))
		d.Room = room + 3
		want, wantErrno := system(file("a", "abc"), file("box", s)), api.OK
		if room < len(s) {
			want, wantErrno = system(file("a", "abc"), api.File{Name: "box.new"}), api.ErrFull
		}
		want.Room = d.Room
		if got, errno := store.Make(d, 4); !sameFs(got, want) || errno != wantErrno {
			t.Errorf("with room for %d bytes: %v, %d, not %v, %d", room, got, errno, want, wantErrno)
		}
	}
	left := system(file("box.new", s)) // whose room there is when it has gone
	left.Room = len(s)
	if got, errno := store.Make(left, 4); errno != api.OK || !slices.Equal(got.Files, []api.File{file("box", s)}) {
		t.Errorf("in the room of one that is left: %v, %d", got, errno)
	}
	full := system()
	for i := range api.MaxFiles {
		full.Files = append(full.Files, file(fmt.Sprintf("c%04d", i), ""))
	}
	if got, errno := store.Make(full, 4); !sameFs(got, full) || errno != api.ErrFull {
		t.Errorf("beside MaxFiles files: %d files, %d", len(got.Files), errno)
	}
	full.Files[0] = file("box.new", "x")
	if got, errno := store.Make(full, 4); len(got.Files) != api.MaxFiles || got.Files[0] != file("box", s) || errno != api.OK {
		t.Errorf("beside MaxFiles files, box.new among them: %d files, %d", len(got.Files), errno)
	}
}

// 21.2, P2, P3
func TestLoadAndCount(t *testing.T) {
	l := changes()
	for n := range len(l) + 1 {
		s := boxText(9, l[:n]...)
		for _, f := range []api.File{file("box", s), {Name: "box", Data: s}, {Name: "box", Data: s, Synced: len(s) - 1}} {
			loads(t, fmt.Sprintf("%d changes", n), system(file("a", "x"), f, file("box.new", "y")), boxOf(t, 9, l[:n]...), n+1)
		}
	}
	whole := boxText(9, l...)
	notLoaded(t, "nothing", system(), api.ErrNone)
	notLoaded(t, "a zero disk", api.Fs{}, api.ErrNone)
	notLoaded(t, "other files", system(file("BOX", whole), file("bo", whole), file("box.new", whole), file("boxx", whole)), api.ErrNone)
	notLoaded(t, "an empty file", system(file("box", "")), api.ErrCode)
	notLoaded(t, "no log", system(file("box", "x")), api.ErrCode)
	notLoaded(t, "a log without its first record", system(file("box", frame(l[0]))), api.ErrCode)
	notLoaded(t, "a byte ahead", system(file("box", "\x00"+whole)), api.ErrCode)
	notLoaded(t, "a byte behind", system(file("box", whole+"\x00")), api.ErrState)
	notLoaded(t, "a change that is not done behind", system(file("box", whole+frame(api.Change{Kind: api.ChangeSet, Uids: []uint32{7}}))), api.ErrState)
	notLoaded(t, "a first record behind", system(file("box", whole+boxText(9))), api.ErrState)
	notLoaded(t, "no power", down(system(file("box", whole))), api.ErrPower)
	notLoaded(t, "no power, and no box", down(system()), api.ErrPower)
	notLoaded(t, "no power, and no log", down(system(file("box", "x"))), api.ErrPower)
	for what, d := range wrongDisks() {
		notLoaded(t, what, d, api.ErrForm)
	}
}

// ends tells at which bytes of a log its records end.
func ends(validity uint32, l ...api.Change) []int {
	var all []int
	for n := range len(l) + 1 {
		all = append(all, len(boxText(validity, l[:n]...)))
	}
	return all
}

// 21.2, 21.4: a log torn at every byte
func TestTornAtEveryByte(t *testing.T) {
	l := changes()
	whole, all := boxText(9, l...), ends(9, l...)
	for cut := range len(whole) + 1 {
		what, torn := fmt.Sprintf("cut at byte %d", cut), whole[:cut]
		for _, synced := range []int{0, cut / 2, cut} {
			d := system(file("a", "x"), api.File{Name: "box", Data: torn, Synced: synced}, api.File{Name: "c", Data: "yy", Synced: 1})
			got, errno := store.Recover(d)
			if cut < all[0] {
				notLoaded(t, what, d, api.ErrCode)
				if !sameFs(got, d) || errno != api.ErrCode {
					t.Errorf("%s: Recover tells %v, %d, not ErrCode and the disk as it was", what, got, errno)
				}
				continue
			}
			n, is := slices.BinarySearch(all, cut)
			if !is {
				n--
				notLoaded(t, what, d, api.ErrState)
			}
			want := system(file("a", "x"), file("box", torn[:all[n]]), api.File{Name: "c", Data: "yy", Synced: 1})
			if !sameFs(got, want) || errno != api.OK {
				t.Errorf("%s: Recover tells %v, %d, not %v", what, got, errno, want)
			}
			loads(t, what, got, boxOf(t, 9, l[:n]...), n+1)
			if is {
				loads(t, what, d, boxOf(t, 9, l[:n]...), n+1)
			}
		}
	}
}

// 21.4, P2, P3
func TestRecoverThatIsRefused(t *testing.T) {
	whole := boxText(9, changes()...)
	refused := func(what string, d, want api.Fs, wantErrno api.Errno) {
		t.Helper()
		if got, errno := store.Recover(d); !sameFs(got, want) || errno != wantErrno {
			t.Errorf("Recover of %s: %v, %d, not %v, %d", what, got, errno, want, wantErrno)
		}
	}
	for what, d := range map[string]api.Fs{
		"nothing":     system(),
		"a zero disk": {},
		"other files": system(file("BOX", whole), file("box.new", whole)),
	} {
		refused(what, d, d, api.ErrNone)
		refused(what+" without power", down(d), down(d), api.ErrPower)
	}
	for _, s := range []string{"", "x", "\x00" + whole, frame(changes()[0])} {
		d := api.Fs{Room: 999, Files: []api.File{{Name: "box", Data: s}, file("box.new", whole)}}
		refused("what is no log", d, d, api.ErrCode)
	}
	for _, d := range []api.Fs{system(file("box", whole)), system(file("box", whole+"x")), system(file("box", ""))} {
		refused("what has no power", down(d), down(d), api.ErrPower)
	}
	for what, d := range wrongDisks() {
		refused(what, d, api.Fs{}, api.ErrForm)
	}
}

// 21.4: each failure at each place; the one step that may fail is the sync, for a cut is no change of the disk
func TestRecoverThatFails(t *testing.T) {
	l := changes()
	whole := boxText(9, l...)
	for what, data := range map[string]string{"a whole log": whole, "a torn one": whole + "torn", "one with a change that is not done": whole + boxText(9)} {
		for _, synced := range []int{0, len(whole) - 1, len(whole), len(data)} {
			start := []api.File{{Name: "box", Data: data, Synced: synced}, file("c", "x")}
			cut := []api.File{{Name: "box", Data: whole, Synced: min(synced, len(whole))}, file("c", "x")}
			steps := []stage{{cut, cut}, {[]api.File{file("box", whole), file("c", "x")}, []api.File{file("box", whole), file("c", "x")}}}
			for at := range steps {
				for _, power := range []bool{true, false} {
					d, want, wantErrno := failing(steps, at, power)
					d.Files = start
					got, errno := store.Recover(d)
					if !sameFs(got, want) || errno != wantErrno {
						t.Errorf("%s, synced %d, at step %d, the power: %v: %v, %d, not %v, %d", what, synced, at, power, got, errno, want, wantErrno)
					}
					got.Down = false
					loads(t, what, got, boxOf(t, 9, l...), len(l)+1)
				}
			}
		}
	}
}

// 21.3
func TestDo(t *testing.T) {
	l := changes()
	d := system(file("a", "x"), file("box", boxText(9)), file("box.new", "y"))
	b := boxOf(t, 9)
	for n, c := range l {
		next, uids, errno := box.Do(b, c)
		if errno != api.OK {
			t.Fatalf("change %d: %d", n, errno)
		}
		got, told, errno := store.Do(d, c)
		want := system(file("a", "x"), file("box", boxText(9, l[:n+1]...)), file("box.new", "y"))
		if !sameFs(got, want) || !slices.Equal(told, uids) || errno != api.OK {
			t.Errorf("change %d: %v, %d, %d, not %v, %d", n, got, told, errno, want, uids)
		}
		loads(t, fmt.Sprintf("change %d", n), got, next, n+2)
		d, b = got, next
	}
}

// 21.3: what waited to be synced is synced with the record
func TestDoOfAFileThatWaits(t *testing.T) {
	l := changes()
	s := boxText(9, l[:2]...)
	for _, synced := range []int{0, 3, len(s)} {
		got, uids, errno := store.Do(system(api.File{Name: "box", Data: s, Synced: synced}), l[2])
		if !sameFs(got, system(file("box", boxText(9, l[:3]...)))) || len(uids) != 0 || errno != api.OK {
			t.Errorf("synced %d: %v, %d, %d", synced, got, uids, errno)
		}
	}
}

// 21.3, 21.7, P2, P3
func TestDoThatIsRefused(t *testing.T) {
	whole := boxText(9, changes()...)
	append1 := api.Change{Kind: api.ChangeAppend, Raw: "z"}
	refused := func(what string, d api.Fs, c api.Change, want api.Fs, wantErrno api.Errno) {
		t.Helper()
		if got, uids, errno := store.Do(d, c); !sameFs(got, want) || len(uids) != 0 || errno != wantErrno {
			t.Errorf("Do with %s: %v, %d, %d, not %v, %d", what, got, uids, errno, want, wantErrno)
		}
	}
	none := api.Change{Kind: api.ChangeSet, Uids: []uint32{7}}
	for _, d := range []api.Fs{system(file("box", whole)), {Room: 9999, Files: []api.File{file("a", "b"), {Name: "box", Data: whole, Synced: 9}}}} {
		for what, c := range wrongChanges() {
			refused(what, d, c, d, api.ErrForm)
			refused(what+" without power", down(d), c, down(d), api.ErrPower)
		}
		refused("a mail that is not there", d, none, d, api.ErrNone)
		refused("a mail that is no more", d, api.Change{Kind: api.ChangeAdd, Uids: []uint32{1, 2}}, d, api.ErrNone)
		refused("one without power", down(d), append1, down(d), api.ErrPower)
	}
	for what, c := range wrongChanges() {
		d := system(file("a", "b"))
		refused(what+", and no box", d, c, d, api.ErrNone)
	}
	for _, c := range []api.Change{append1, none, {}} {
		for what, d := range map[string]api.Fs{"no box": system(file("box.new", whole)), "a zero disk": {}} {
			refused(what, d, c, d, api.ErrNone)
		}
		d := system(file("box", "x"))
		refused("what is no log", d, c, d, api.ErrCode)
		d = system(file("box", whole+"x"))
		refused("a torn box", d, c, d, api.ErrState)
		for what, d := range wrongDisks() {
			refused(what, d, c, api.Fs{}, api.ErrForm)
		}
	}
}

// 21.3: the greatest box refuses one more
func TestDoOfAFullBox(t *testing.T) {
	l := slices.Repeat([]api.Change{{Kind: api.ChangeAppend}}, api.MaxMails)
	d := system(file("box", boxText(9, l...)))
	if got, uids, errno := store.Do(d, l[0]); !sameFs(got, d) || len(uids) != 0 || errno != api.ErrFull {
		t.Errorf("one mail too many: %d, %d", uids, errno)
	}
	d = system(file("box", boxText(9, l[1:]...)))
	if _, uids, errno := store.Do(d, l[0]); !slices.Equal(uids, []uint32{api.MaxMails}) || errno != api.OK {
		t.Errorf("the last mail: %d, %d", uids, errno)
	}
}

// 21.3: no right change has a record that would be too long
func TestDoOfTheGreatestChange(t *testing.T) {
	long := api.Change{Kind: api.ChangeAppend, Flags: api.FlagAll, Inner: api.Time{Day: api.MaxDay, Second: 86399, Zone: -5999}, Raw: strings.Repeat("x", api.MaxMail)}
	many := api.Change{Kind: api.ChangeExpunge}
	for i := range uint32(api.MaxList) {
		many.Uids = append(many.Uids, 65535+i*65535)
	}
	d := system(file("box", boxText(9)))
	for n, c := range []api.Change{long, many} {
		var errno api.Errno
		if d, _, errno = store.Do(d, c); errno != api.OK {
			t.Errorf("change %d: %d", n, errno)
		}
	}
	loads(t, "the greatest", d, boxOf(t, 9, long, many), 3)
}

// doStages tells the stages of a Do, of a file with these bytes, of which so many are synced.
func doStages(s, record string, synced int) []stage {
	with := func(f api.File) []api.File { return []api.File{file("a", "x"), f, file("c", "y")} }
	was, put, done := api.File{Name: "box", Data: s, Synced: synced}, api.File{Name: "box", Data: s + record, Synced: synced}, file("box", s+record)
	return []stage{
		{with(was), with(put)},
		{with(was), with(put)}, // at a fault the record is taken out again
		{with(done), with(done)},
	}
}

// 21.3, 21.6, 21.7: each failure at each place
func TestDoThatFailsAtEachStep(t *testing.T) {
	l := changes()
	for n, c := range l {
		s, record := boxText(9, l[:n]...), frame(c)
		old, next := boxOf(t, 9, l[:n]...), boxOf(t, 9, l[:n+1]...)
		steps := doStages(s, record, len(s))
		for at := range steps {
			for _, power := range []bool{true, false} {
				what := fmt.Sprintf("change %d, at step %d, the power: %v", n, at, power)
				d, want, wantErrno := failing(steps, at, power)
				got, uids, errno := store.Do(d, c)
				if !sameFs(got, want) || errno != wantErrno || errno != api.OK && len(uids) != 0 {
					t.Errorf("%s: %v, %d, %d, not %v, %d", what, got, uids, errno, want, wantErrno)
				}
				switch errno {
				case api.OK:
					loads(t, what, got, next, n+2)
				case api.ErrFault: // the box is the one that was, at once
					loads(t, what, got, old, n+1)
				}
				for _, crashed := range crashes(t, got) {
					whole, wrong := store.Recover(crashed)
					b, _ := store.Load(whole)
					if wrong != api.OK || !sameBox(b, next) && (errno == api.OK || !sameBox(b, old)) {
						t.Errorf("%s: behind a crash the box is %v, %d", what, b, wrong)
					}
				}
			}
		}
	}
}

// 21.3, 21.7: what waited to be synced is not lost when the record is taken out
func TestAFaultOfAFileThatWaits(t *testing.T) {
	l := changes()
	s := boxText(9, l[:2]...)
	for _, synced := range []int{0, 5, len(s)} {
		steps := doStages(s, frame(l[2]), synced)
		for at := range steps {
			for _, power := range []bool{true, false} {
				d, want, wantErrno := failing(steps, at, power)
				if got, _, errno := store.Do(d, l[2]); !sameFs(got, want) || errno != wantErrno {
					t.Errorf("synced %d, at step %d, the power: %v: %v, %d, not %v, %d", synced, at, power, got, errno, want, wantErrno)
				}
			}
		}
	}
}

// 21.3, 21.7: both failures at hand: the power's is asked first
func TestAFaultAndAFuse(t *testing.T) {
	l := changes()
	s, record := boxText(9, l[0]), frame(l[1])
	for _, c := range []struct {
		fuse, fault int
		errno       api.Errno
		want        api.Fs
	}{
		{0, 0, api.ErrPower, api.Fs{Fuse: 0, Fault: 0, Down: true, Files: []api.File{{Name: "box", Data: s + record, Synced: len(s)}}}},
		{1, 0, api.ErrFault, api.Fs{Fuse: 0, Fault: -1, Files: []api.File{file("box", s)}}},
		{1, 1, api.ErrPower, api.Fs{Fuse: 0, Fault: 0, Down: true, Files: []api.File{{Name: "box", Data: s + record, Synced: len(s)}}}},
		{2, 1, api.ErrFault, api.Fs{Fuse: 0, Fault: -1, Files: []api.File{file("box", s)}}},
		{2, 2, api.OK, api.Fs{Fuse: 0, Fault: 0, Files: []api.File{file("box", s+record)}}},
	} {
		d := system(file("box", s))
		d.Fuse, d.Fault, c.want.Room = c.fuse, c.fault, d.Room
		if got, _, errno := store.Do(d, l[1]); !sameFs(got, c.want) || errno != c.errno {
			t.Errorf("fuse %d, fault %d: %v, %d, not %v, %d", c.fuse, c.fault, got, errno, c.want, c.errno)
		}
	}
}

// 21.3, 21.7: no room for a record, for a part of it, for all but the sync
func TestDoWithoutRoom(t *testing.T) {
	l := changes()
	for n, c := range l {
		s, record := boxText(9, l[:n]...), frame(c)
		for room := range len(record) + 1 {
			for _, fault := range []int{-1, 0, 1} {
				d := system(file("box", s), file("c", "x"))
				d.Room, d.Fault = len(s)+1+room, fault
				want, wantErrno, old := d, api.ErrFull, true
				switch {
				case room < len(record):
				case fault >= 0:
					want.Fault, wantErrno = -1, api.ErrFault
				default:
					want.Files, wantErrno, old = []api.File{file("box", s+record), file("c", "x")}, api.OK, false
				}
				got, _, errno := store.Do(d, c)
				if !sameFs(got, want) || errno != wantErrno {
					t.Errorf("change %d, room for %d bytes, fault %d: %v, %d, not %v, %d", n, room, fault, got, errno, want, wantErrno)
				}
				if old {
					loads(t, "without room", got, boxOf(t, 9, l[:n]...), n+1)
				}
			}
		}
	}
}

// randomChange tells one that is right, and most times is done.
func randomChange(r *rand.Rand, next int) api.Change {
	var uids []uint32
	for uid := range uint32(next + 1) {
		if r.Intn(4) == 0 {
			uids = append(uids, uid)
		}
	}
	few := uids[:min(len(uids), r.Intn(3))]
	switch r.Intn(6) {
	case 0:
		return api.Change{Kind: api.ChangeAdd, Uids: few, Flags: api.FlagDeleted | api.Flag(r.Intn(32))}
	case 1:
		return api.Change{Kind: api.ChangeSet + api.ChangeKind(r.Intn(3)), Uids: few, Flags: api.Flag(r.Intn(32))}
	case 2:
		return api.Change{Kind: api.ChangeExpunge, Uids: uids}
	case 3:
		return api.Change{Kind: api.ChangeSelect}
	}
	return api.Change{Kind: api.ChangeAppend, Flags: api.Flag(r.Intn(32)), Inner: api.Time{Day: r.Intn(9999)}, Raw: strings.Repeat("r", r.Intn(40))}
}

// 21.6, 21.7: changes by chance on a disk that fails by chance, held against a box that never does
func TestToldIsKept(t *testing.T) {
	r := rand.New(rand.NewSource(1))
	ended := map[api.Errno]int{}
	for range 60 {
		d, errno := store.Make(api.Fs{Room: 400, Fuse: -1, Fault: -1}, 5)
		if errno != api.OK {
			t.Fatalf("Make: %d", errno)
		}
		b := boxOf(t, 5)
		for range 40 {
			d.Fuse, d.Fault = r.Intn(9)-1, r.Intn(7)-1
			c := randomChange(r, int(b.Next))
			next, uids, want := box.Do(b, c)
			got, told, errno := store.Do(d, c)
			ended[errno]++
			switch {
			case errno == api.OK:
				if want != api.OK || !slices.Equal(told, uids) {
					t.Fatalf("%v is done: %d, not %d, %d", c, told, uids, want)
				}
				b = next
			case errno != api.ErrPower:
				if now, errno := store.Load(got); !sameBox(now, b) || errno != api.OK {
					t.Fatalf("%v is refused, and the box is not the one that was: %d", c, errno)
				}
			}
			if d = got; errno == api.ErrPower {
				d, _ = disk.Crash(d, r.Intn(60))
				d, _ = store.Recover(d)
				now, _ := store.Load(d)
				if !sameBox(now, b) && (want != api.OK || !sameBox(now, next)) {
					t.Fatalf("behind a crash in %v the box is %v", c, now)
				}
				b = now
			}
			crashed, _ := disk.Crash(d)
			loaded, errno := store.Load(crashed)
			if !sameBox(loaded, b) || errno != api.OK {
				t.Fatalf("what was told is not there behind a crash: %d", errno)
			}
		}
	}
	for _, errno := range []api.Errno{api.OK, api.ErrNone, api.ErrFull, api.ErrPower, api.ErrFault} {
		if ended[errno] < 20 {
			t.Errorf("%d ended with %d", ended[errno], errno)
		}
	}
}

// shares tells whether two texts have memory together.
func shares(a, b string) bool {
	if a == "" || b == "" {
		return false
	}
	from, to := uintptr(unsafe.Pointer(unsafe.StringData(a))), uintptr(unsafe.Pointer(unsafe.StringData(b)))
	return from < to+uintptr(len(b)) && to < from+uintptr(len(a))
}

// texts tells all texts of a disk.
func texts(d api.Fs) []string {
	var l []string
	for _, f := range d.Files {
		l = append(l, f.Name, f.Data)
	}
	return l
}

// copyOf tells the same disk in other memory.
func copyOf(d api.Fs) api.Fs {
	d.Files = slices.Clone(d.Files)
	for i := range d.Files {
		d.Files[i].Name, d.Files[i].Data = strings.Clone(d.Files[i].Name), strings.Clone(d.Files[i].Data)
	}
	return d
}

// apart sees that a disk that is answered shares nothing with the one that was handed in, that is as it was.
func apart(t *testing.T, what string, d, was, got api.Fs, others ...string) {
	t.Helper()
	if !sameFs(d, was) {
		t.Errorf("%s: what is handed in is changed", what)
	}
	if len(d.Files) > 0 && len(got.Files) > 0 && &d.Files[0] == &got.Files[0] {
		t.Errorf("%s: the files are the ones that were handed in", what)
	}
	for _, a := range texts(got) {
		for _, b := range append(texts(d), others...) {
			if shares(a, b) {
				t.Errorf("%s: %.20q shares its memory with what was handed in", what, a)
			}
		}
	}
}

// 21.5
func TestNewMemory(t *testing.T) {
	l := changes()
	whole := boxText(9, l...)
	c := api.Change{Kind: api.ChangeAppend, Raw: strings.Repeat("raw", 9)}
	for what, d := range map[string]api.Fs{
		"a whole box": system(file("a", "abc"), file("box", whole), file("c", "xyz")),
		"a torn one":  system(file("a", "abc"), file("box", whole+"torn"), file("c", "xyz")),
		"no log":      system(file("a", "abc"), file("box", "no log"), file("c", "xyz")),
		"no box":      system(file("a", "abc"), file("box.new", "left over"), file("c", "xyz")),
	} {
		for fail := -1; fail < 6; fail++ {
			for _, gone := range []bool{false, true} {
				d.Fuse, d.Fault, d.Down = fail, fail-1, gone
				if fail < 0 {
					d.Fault = -1
				}
				for _, validity := range []uint32{0, 4} {
					was := copyOf(d)
					got, _ := store.Make(d, validity)
					apart(t, "Make with "+what, d, was, got)
				}
				for _, c := range []api.Change{c, l[4], {Kind: api.ChangeSet, Uids: []uint32{9}}, {}} {
					was := copyOf(d)
					got, uids, _ := store.Do(d, c)
					apart(t, "Do with "+what, d, was, got, c.Raw)
					if len(uids) > 0 && len(c.Uids) > 0 && &uids[0] == &c.Uids[0] {
						t.Errorf("Do with %s: the numbers are the ones that were handed in", what)
					}
				}
				was := copyOf(d)
				got, _ := store.Recover(d)
				apart(t, "Recover with "+what, d, was, got)
				b, _ := store.Load(d)
				for _, m := range b.Messages {
					if shares(m.Raw, d.Files[1].Data) {
						t.Errorf("Load with %s: a mail shares its memory with the disk", what)
					}
				}
			}
		}
	}
}

// 21.5: of changes of flags, the numbers that are told are the change's own
func TestNumbersAreNewMemory(t *testing.T) {
	d := system(file("box", boxText(9, changes()...)))
	c := api.Change{Kind: api.ChangeSet, Uids: []uint32{1, 3}, Flags: api.FlagDeleted}
	_, uids, errno := store.Do(d, c)
	if !slices.Equal(uids, c.Uids) || errno != api.OK || &uids[0] == &c.Uids[0] {
		t.Errorf("Do tells %d, %d", uids, errno)
	}
	one, _ := store.Load(d)
	two, _ := store.Load(d)
	one.Messages[0].Raw = "changed"
	if two.Messages[0].Raw == "changed" {
		t.Errorf("two answers share their mails")
	}
}

// P1, P3, P4: any bytes are answered, alike each time, and nothing runs on
func TestAnyFileIsAnswered(t *testing.T) {
	r := rand.New(rand.NewSource(2))
	ahead := runtime.NumGoroutine()
	whole := boxText(9, changes()...)
	for range 2000 {
		b := []byte(whole)
		for range r.Intn(3) {
			b[r.Intn(len(b))] ^= 1 << r.Intn(8)
		}
		d := system(api.File{Name: "box", Data: string(b[:r.Intn(len(b)+1)])})
		d.Fuse, d.Fault, d.Down = r.Intn(4)-1, r.Intn(4)-1, r.Intn(9) == 0
		c := randomChange(r, 4)
		one, _, errno := store.Do(d, c)
		two, _, again := store.Do(d, c)
		if !sameFs(one, two) || errno != again {
			t.Fatalf("Do tells %v, %d, and then %v, %d", one, errno, two, again)
		}
		if _, loaded := store.Load(d); loaded != api.OK && loaded != errno {
			t.Fatalf("Do tells %d, Load %d", errno, loaded)
		}
		whole, errno := store.Recover(d)
		if _, loaded := store.Load(whole); errno == api.OK && loaded != api.OK {
			t.Fatalf("recovered, Load tells %d", loaded)
		}
	}
	if now := runtime.NumGoroutine(); now > ahead {
		t.Errorf("%d goroutines, %d ahead", now, ahead)
	}
}
