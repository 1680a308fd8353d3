package index_test

import (
	"cmp"
	"fmt"
	"math"
	"math/rand"
	"reflect"
	"runtime"
	"slices"
	"strings"
	"testing"
	"unsafe"

	"missive/api"
	"missive/box"
	"missive/buf"
	"missive/disk"
	"missive/index"
	"missive/log"
	"missive/mail"
	"missive/manif"
	"missive/seg"
	"missive/store"
	"missive/tier"
)

// The signatures that the chapter lists.
var (
	_ func(api.Fs) (api.View, api.Errno)         = index.Load
	_ func(api.View, string) []uint32            = index.Seek
	_ func(api.View) []api.Item                  = index.Items
	_ func(api.Fs) (api.Fs, int, api.Errno)      = index.Flush
	_ func(api.Fs, int) (api.Fs, int, api.Errno) = index.Merge
	_ func(api.Fs) (api.Fs, api.Errno)           = index.Collect
)

// file is one all of whose bytes are synced.
func file(name, data string) api.File {
	return api.File{Name: name, Data: data, Synced: len(data)}
}

// system tells a file system of files, whose names rise.
func system(files ...api.File) api.Fs {
	return api.Fs{Room: api.MaxRoom, Fuse: -1, Fault: -1, Files: files}
}

// down tells d without power.
func down(d api.Fs) api.Fs {
	d.Down = true
	return d
}

// sameFs takes nil and empty lists as alike.
func sameFs(a, b api.Fs) bool {
	files := slices.Equal(a.Files, b.Files)
	a.Files, b.Files = nil, nil
	return files && reflect.DeepEqual(a, b)
}

// sameItem is sameFs of items.
func sameItem(a, b api.Item) bool {
	lists := slices.Equal(a.Doc.Names, b.Doc.Names) && slices.Equal(a.Doc.Values, b.Doc.Values) && slices.Equal(a.Doc.Body, b.Doc.Body)
	a.Doc.Names, a.Doc.Values, a.Doc.Body = nil, nil, nil
	b.Doc.Names, b.Doc.Values, b.Doc.Body = nil, nil, nil
	return lists && reflect.DeepEqual(a, b)
}

// sameItems is sameItem of lists.
func sameItems(a, b []api.Item) bool {
	return slices.EqualFunc(a, b, sameItem)
}

// sameManifest is sameFs of manifests.
func sameManifest(a, b api.Manifest) bool {
	return a.Gen == b.Gen && a.Next == b.Next && a.Upto == b.Upto && slices.Equal(a.Segs, b.Segs) && slices.Equal(a.Dead, b.Dead)
}

// sameBox is sameFs of boxes.
func sameBox(a, b api.Box) bool {
	messages := slices.Equal(a.Messages, b.Messages)
	a.Messages, b.Messages = nil, nil
	return messages && reflect.DeepEqual(a, b)
}

// sameView is sameFs of views.
func sameView(a, b api.View) bool {
	return sameBox(a.Box, b.Box) && sameManifest(a.Manifest, b.Manifest) && slices.EqualFunc(a.Segs, b.Segs, sameItems) && sameItems(a.Fresh, b.Fresh) && slices.Equal(a.Dead, b.Dead)
}

// came tells a change by which a mail comes.
func came(day int, raw string) api.Change {
	return api.Change{Kind: api.ChangeAppend, Inner: api.Time{Day: day, Second: 5}, Raw: raw}
}

// gone tells the two changes by which mails go.
func gone(uids ...uint32) []api.Change {
	return []api.Change{{Kind: api.ChangeAdd, Uids: uids, Flags: api.FlagDeleted}, {Kind: api.ChangeExpunge, Uids: uids}}
}

// changes are some of a box with the mails 1, 3, 4, 6 and 7: 2 and 5 have gone.
func changes() []api.Change {
	return slices.Concat(
		[]api.Change{came(10, "Subject: One\nDate: 5 Feb 96\n\nHello there"), came(-4, "\nyellow"), came(12, "X: Third\n\nhello again")},
		gone(2),
		[]api.Change{came(13, "\nfellow"), came(14, "A: b\n\nfive"), {Kind: api.ChangeSelect}, came(15, "")},
		gone(5),
		[]api.Change{came(16, "Subject: seven\n\nthe last one")},
	)
}

// boxOf tells the box behind changes, of the validity 9.
func boxOf(l ...api.Change) api.Box {
	b, _, _, errno := log.Replay(boxText(l...))
	if errno != api.OK {
		panic(errno)
	}
	return b
}

// boxText tells a log's bytes, of the validity 9.
func boxText(l ...api.Change) string {
	var b strings.Builder
	s, errno := log.Begin(9)
	b.WriteString(s)
	for _, c := range l {
		if errno == api.OK {
			s, errno = log.Frame(c)
			b.WriteString(s)
		}
	}
	if errno != api.OK {
		panic(errno)
	}
	return b.String()
}

// itemOf tells the item of a mail that is, or was, in the box behind changes.
func itemOf(uid uint32, l ...api.Change) api.Item {
	for _, c := range l {
		if c.Kind != api.ChangeAppend {
			continue
		}
		if uid--; uid == 0 {
			return api.Item{Inner: c.Inner.Day, Doc: mail.Read(c.Raw)}
		}
	}
	return api.Item{}
}

// items tells those of some numbers of changes.
func items(uids ...uint32) []api.Item {
	var l []api.Item
	for _, uid := range uids {
		x := itemOf(uid, changes()...)
		x.Uid = uid
		l = append(l, x)
	}
	return l
}

// boxItems tells the items of all mails of a box, as they are to be.
func boxItems(b api.Box) []api.Item {
	var l []api.Item
	for _, m := range b.Messages {
		l = append(l, api.Item{Uid: m.Uid, Inner: m.Inner.Day, Doc: mail.Read(m.Raw)})
	}
	return l
}

// segment tells the bytes of items that are right.
func segment(l ...api.Item) string {
	s, errno := seg.Build(l...)
	if errno != api.OK {
		panic(errno)
	}
	return s
}

// manifest tells the bytes of one that is right.
func manifest(m api.Manifest) string {
	s, errno := manif.Encode(m)
	if errno != api.OK {
		panic(errno)
	}
	return s
}

// name tells the name of a segment's file.
func name(id uint64) string {
	return fmt.Sprintf("seg-%010d", id)
}

// indexed is an index made by hand: its box's changes, its manifest, and each segment's items.
type indexed struct {
	changes  []api.Change
	manifest api.Manifest
	segs     [][]api.Item
}

// disk tells a disk with that index; each SegRef is made, of the Ids of Segs, or, if there are none, from 0 on.
func (x indexed) disk() api.Fs {
	m := x.manifest
	m.Gen, m.Next = max(m.Gen, 1), max(m.Next, uint64(len(x.segs)))
	if m.Segs == nil {
		for i, l := range x.segs {
			m.Segs = append(m.Segs, api.SegRef{Id: uint64(i), Items: len(l)})
		}
	}
	files := []api.File{file("box", boxText(x.changes...)), file("index", manifest(m))}
	for i, l := range x.segs {
		files = append(files, file(name(m.Segs[i].Id), segment(l...)))
	}
	return system(files...)
}

// some is an index with something of everything: 1 2 3 in one segment, 4 5 in another one, 6 and 7 fresh, 2 and 5 dead, of which the manifest has 2.
func some() indexed {
	return indexed{changes(), api.Manifest{Gen: 3, Next: 9, Segs: []api.SegRef{{Id: 2, Items: 3}, {Id: 5, Items: 2}}, Dead: []uint32{2}, Upto: 8}, [][]api.Item{items(1, 2, 3), items(4, 5)}}
}

// someView is what some has.
func someView() api.View {
	return api.View{Box: boxOf(changes()...), Manifest: some().manifest, Segs: some().segs, Fresh: items(6, 7), Dead: []uint32{2, 5}}
}

// flushed is some when it is flushed.
func flushed() indexed {
	return indexed{changes(), api.Manifest{Gen: 4, Next: 10, Segs: []api.SegRef{{Id: 2, Items: 3}, {Id: 5, Items: 2}, {Id: 9, Items: 2}}, Dead: []uint32{2, 5}, Upto: 13}, [][]api.Item{items(1, 2, 3), items(4, 5), items(6, 7)}}
}

// with puts a file on a disk, in the place of another one of its name.
func with(d api.Fs, f api.File) api.Fs {
	d = without(d, f.Name)
	d.Files = append(d.Files, f)
	slices.SortFunc(d.Files, func(a, b api.File) int { return cmp.Compare(a.Name, b.Name) })
	return d
}

// without takes a file from a disk.
func without(d api.Fs, name string) api.Fs {
	d.Files = slices.DeleteFunc(slices.Clone(d.Files), func(f api.File) bool { return f.Name == name })
	return d
}

// has sees that a disk has that view.
func has(t *testing.T, what string, d api.Fs, want api.View) {
	t.Helper()
	if v, errno := index.Load(d); !sameView(v, want) || errno != api.OK {
		t.Errorf("%s: Load tells %v, %d, not %v", what, v, errno, want)
	}
}

// refused sees that each call that asks for a sound index tells that error, and leaves the disk as it was (a Collect, of which the chapter does not say so, tells none).
func refused(t *testing.T, what string, d api.Fs, want api.Errno) {
	t.Helper()
	was := d
	if want == api.ErrForm {
		was = api.Fs{}
	}
	if v, errno := index.Load(d); !reflect.DeepEqual(v, api.View{}) || errno != want {
		t.Errorf("%s: Load tells %v, %d, not %d alone", what, v, errno, want)
	}
	if got, n, errno := index.Flush(d); !sameFs(got, was) || n != 0 || errno != want {
		t.Errorf("%s: Flush tells %v, %d, %d, not %d", what, got, n, errno, want)
	}
	for _, fan := range []int{0, 2} {
		if got, n, errno := index.Merge(d, fan); !sameFs(got, was) || n != 0 || errno != want {
			t.Errorf("%s: Merge tells %v, %d, %d, not %d", what, got, n, errno, want)
		}
	}
	if got, errno := index.Collect(d); !sameFs(got, api.Fs{}) || errno != want {
		t.Errorf("%s: Collect tells %v, %d, not %d alone", what, got, errno, want)
	}
}

// 22.1, 22.2: the document's example
func TestAppendedAndFlushed(t *testing.T) {
	d, errno := store.Make(system(), 9)
	if errno != api.OK {
		t.Fatalf("Make: %d", errno)
	}
	has(t, "made", d, api.View{Box: boxOf()})
	c := came(77, "Subject: Hello\n\nworld")
	d, _, errno = store.Do(d, c)
	if errno != api.OK {
		t.Fatalf("Do: %d", errno)
	}
	x := api.Item{Uid: 1, Inner: 77, Doc: mail.Read(c.Raw)}
	has(t, "appended", d, api.View{Box: boxOf(c), Fresh: []api.Item{x}})
	d, n, errno := index.Flush(d)
	if n != 1 || errno != api.OK {
		t.Fatalf("Flush: %d, %d", n, errno)
	}
	has(t, "flushed", d, api.View{Box: boxOf(c), Manifest: api.Manifest{Gen: 1, Next: 1, Segs: []api.SegRef{{Id: 0, Items: 1}}, Upto: 2}, Segs: [][]api.Item{{x}}})
}

// 22.1
func TestLoad(t *testing.T) {
	has(t, "something of everything", some().disk(), someView())
	all := boxOf(changes()...)
	bare := system(file("box", boxText(changes()...)))
	has(t, "no file index", bare, api.View{Box: all, Fresh: items(1, 3, 4, 6, 7)})
	litter := with(with(bare, file("index.new", manifest(flushed().manifest))), file(name(0), segment(items(1, 2)...)))
	has(t, "files that no manifest names", litter, api.View{Box: all, Fresh: items(1, 3, 4, 6, 7)})
	for upto := range uint64(2) { // the first record is no change
		x := indexed{changes: changes(), manifest: api.Manifest{Upto: upto}}
		has(t, "a manifest without segments", x.disk(), api.View{Box: all, Manifest: api.Manifest{Gen: 1, Upto: upto}, Fresh: items(1, 3, 4, 6, 7)})
	}
	waiting := some().disk()
	for i := range waiting.Files {
		waiting.Files[i].Synced = 0
	}
	has(t, "files that wait to be synced", waiting, someView())
}

// 22.1: which mails are fresh hangs on Upto alone
func TestFreshOfEachUpto(t *testing.T) {
	l := changes()
	for upto := range uint64(len(l)) + 5 {
		var old, fresh []uint32
		next := uint32(0)
		for i, c := range l {
			if c.Kind != api.ChangeAppend {
				continue
			}
			next++
			if uint64(i+1) < upto {
				old = append(old, next)
			} else if next != 2 && next != 5 {
				fresh = append(fresh, next)
			}
		}
		m := api.Manifest{Gen: 1, Upto: upto, Next: 1, Segs: []api.SegRef{{Id: 0, Items: len(old)}}}
		x := indexed{l, m, [][]api.Item{items(old...)}}
		var dead []uint32
		for _, uid := range old {
			if uid == 2 || uid == 5 {
				dead = append(dead, uid)
			}
		}
		has(t, fmt.Sprintf("up to %d", upto), x.disk(), api.View{Box: boxOf(l...), Manifest: m, Segs: x.segs, Fresh: items(fresh...), Dead: dead})
	}
}

// 22.1: dead are those whose items are in segments, whatever the manifest says of them
func TestDead(t *testing.T) {
	for what, dead := range map[string][]uint32{"none": nil, "one": {5}, "both": {2, 5}, "others": {1, 2, 3, 99, math.MaxUint32}} {
		x := some()
		x.manifest.Dead = dead
		v := someView()
		v.Manifest.Dead = dead
		has(t, "the manifest's dead: "+what, x.disk(), v)
	}
	x := some()
	x.segs = [][]api.Item{items(1, 3), items(4)}
	x.manifest.Segs = []api.SegRef{{Id: 2, Items: 2}, {Id: 5, Items: 1}}
	has(t, "no dead items", x.disk(), api.View{Box: boxOf(changes()...), Manifest: x.manifest, Segs: x.segs, Fresh: items(6, 7)})
	other := items(2) // an item of a mail that is no more is held against nothing
	other[0].Inner, other[0].Doc = 999, mail.Read("\nsomething else")
	x.segs, x.manifest.Segs[1].Items = [][]api.Item{items(1, 3), {other[0], items(4)[0]}}, 2
	has(t, "a dead item of another text", x.disk(), api.View{Box: boxOf(changes()...), Manifest: x.manifest, Segs: x.segs, Fresh: items(6, 7), Dead: []uint32{2}})
}

// 22.1: segments in any order of their mails, and without any
func TestSegmentsThatAreMixed(t *testing.T) {
	m := api.Manifest{Gen: 2, Next: 40, Upto: 13, Segs: []api.SegRef{{Id: 0, Items: 0}, {Id: 3, Items: 3}, {Id: 4, Items: 0}, {Id: 39, Items: 4}}}
	x := indexed{changes(), m, [][]api.Item{{}, items(2, 6, 7), {}, items(1, 3, 4, 5)}}
	has(t, "mixed", x.disk(), api.View{Box: boxOf(changes()...), Manifest: m, Segs: x.segs, Dead: []uint32{2, 5}})
}

// wrongDisks are file systems that are not right.
func wrongDisks() map[string]api.Fs {
	good := some().disk()
	wrong := map[string]api.Fs{
		"a room below 0":  {Room: -1, Fuse: -1, Fault: -1},
		"names that fall": {Room: api.MaxRoom, Fuse: -1, Fault: -1, Files: []api.File{good.Files[1], good.Files[0]}},
		"a box twice":     {Room: api.MaxRoom, Fuse: -1, Fault: -1, Files: []api.File{good.Files[0], good.Files[0]}},
		"wrong, and down": {Room: -1, Fuse: -1, Fault: -1, Down: true},
	}
	d := good
	d.Fuse = -2
	wrong["a fuse below -1"] = d
	d = good
	d.Fault = -2
	wrong["a fault below -1"] = d
	d = good
	d.Room = 1
	wrong["too few room"] = d
	wrong["synced above"] = with(good, api.File{Name: "z", Synced: 1})
	return wrong
}

// 22.1 to 22.4, P2, P3: errors of what is below, in their order
func TestDisksThatAreNotRead(t *testing.T) {
	for what, d := range wrongDisks() {
		refused(t, what, d, api.ErrForm)
	}
	good := some().disk()
	box := good.Files[0].Data
	refused(t, "no power", down(good), api.ErrPower)
	refused(t, "a zero disk", api.Fs{}, api.ErrNone)
	refused(t, "no box", without(good, "box"), api.ErrNone)
	refused(t, "a box that is no log", with(good, file("box", "x")), api.ErrCode)
	refused(t, "a torn box", with(good, file("box", box+"x")), api.ErrState)
	refused(t, "a torn box, and no manifest", with(with(good, file("box", box+"x")), file("index", "x")), api.ErrState)
	refused(t, "no manifest", with(good, file("index", "x")), api.ErrCode)
	refused(t, "an empty one", with(good, file("index", "")), api.ErrCode)
	refused(t, "a manifest and a byte", with(good, file("index", manifest(some().manifest)+"\x00")), api.ErrCode)
	refused(t, "no manifest, and no segments", without(without(with(good, file("index", "x")), name(2)), name(5)), api.ErrCode)
	refused(t, "no first segment", without(good, name(2)), api.ErrNone)
	refused(t, "no second segment", without(good, name(5)), api.ErrNone)
	refused(t, "a first one that is none", with(good, file(name(2), "x")), api.ErrCode)
	refused(t, "a second one that is none", with(good, file(name(5), "")), api.ErrCode)
	refused(t, "a segment and a byte", with(good, file(name(5), segment(items(4, 5)...)+"\x00")), api.ErrCode)
	refused(t, "a first one that is none, and no second one", without(with(good, file(name(2), "x")), name(5)), api.ErrCode)
	refused(t, "no first one, and a second one that is none", with(without(good, name(2)), file(name(5), "x")), api.ErrNone)
	refused(t, "a first one of too few items, and no second one", without(with(good, file(name(2), segment(items(1, 3)...))), name(5)), api.ErrNone)
}

// 22.1 to 22.4: what is not sound
func TestWhatIsNotSound(t *testing.T) {
	l := changes()
	made := func(upto uint64, segs ...[]api.Item) api.Fs {
		return indexed{l, api.Manifest{Upto: upto}, segs}.disk()
	}
	loads := func(what string, d api.Fs) {
		t.Helper()
		if _, errno := index.Load(d); errno != api.OK {
			t.Errorf("%s: Load tells %d", what, errno)
		}
	}
	saying := func(first, second int) api.Fs {
		x := some()
		x.manifest.Segs = []api.SegRef{{Id: 2, Items: first}, {Id: 5, Items: second}}
		return x.disk()
	}
	loads("as many items as the manifest says", saying(3, 2))
	refused(t, "more items than the manifest says", saying(2, 2), api.ErrCode)
	refused(t, "fewer items than it says", saying(3, 3), api.ErrCode)
	refused(t, "no items told", saying(0, 2), api.ErrCode)
	refused(t, "as many together, but not each", saying(2, 3), api.ErrCode)
	loads("each mail in a segment", made(13, items(1, 3, 4), items(6, 7)))
	refused(t, "a mail in two segments", made(13, items(1, 3, 4), items(4, 6, 7)), api.ErrCode)
	refused(t, "a dead one in two segments", made(13, items(1, 2, 3, 4), items(2, 6, 7)), api.ErrCode)
	refused(t, "a dead one in two that are not neighbours", made(13, items(1, 2), items(3, 4), items(2, 6, 7)), api.ErrCode)
	for _, uids := range [][]uint32{{3, 4, 6, 7}, {1, 4, 6, 7}, {1, 3, 4, 7}, {1, 3, 4, 6}, {}, {2, 3, 4, 6, 7}, {1, 2, 3, 4, 5, 6}} {
		refused(t, fmt.Sprintf("mails without their items: there are %d", uids), made(13, items(uids...)), api.ErrCode)
	}
	loads("an older mail in a segment, the others fresh", made(8, items(1, 3, 4)))
	refused(t, "an older mail without its item", made(8, items(1, 3)), api.ErrCode)
	refused(t, "a mail in a segment and fresh", made(8, items(1, 3, 4, 6)), api.ErrCode)
	refused(t, "a mail in a segment and fresh, an older one without", made(8, items(1, 3, 6)), api.ErrCode)
	refused(t, "all in a segment and fresh", made(0, items(1, 3, 4, 6, 7)), api.ErrCode)
	bare := indexed{changes: l, manifest: api.Manifest{Upto: 99}}.disk()
	refused(t, "up to more than there is, and no items", bare, api.ErrCode)
	for _, uid := range []uint32{8, 9, 100, math.MaxUint32} {
		x := items(7)[0]
		x.Uid = uid
		refused(t, fmt.Sprintf("an item of the number %d", uid), made(13, append(items(1, 3, 4, 6, 7), x)), api.ErrCode)
	}
	loads("a dead item of the number below Next", indexed{slices.Concat(l, gone(7)), api.Manifest{Upto: 15}, [][]api.Item{items(1, 3, 4, 6, 7)}}.disk())
	x := items(1)[0]
	x.Uid = 1 // an empty box has no number but those below 1
	refused(t, "an item of an empty box", indexed{nil, api.Manifest{}, [][]api.Item{{x}}}.disk(), api.ErrCode)
	loads("an empty box", indexed{nil, api.Manifest{}, [][]api.Item{{}}}.disk())
}

// 22.1: each mail's item is the one that it is to have, whole
func TestAnotherItemThanIsToBe(t *testing.T) {
	turned := func(turn func(x *api.Item)) api.Fs {
		l := items(1, 3, 4, 6, 7)
		turn(&l[0])
		return indexed{changes(), api.Manifest{Upto: 13}, [][]api.Item{l}}.disk()
	}
	if _, errno := index.Load(turned(func(*api.Item) {})); errno != api.OK {
		t.Fatalf("as it is to be: %d", errno)
	}
	for what, turn := range map[string]func(x *api.Item){
		"another day":          func(x *api.Item) { x.Inner++ },
		"another size":         func(x *api.Item) { x.Doc.Size-- },
		"another date":         func(x *api.Item) { x.Doc.Day++ },
		"no date":              func(x *api.Item) { x.Doc.Dated = false },
		"another name":         func(x *api.Item) { x.Doc.Names[0] += "x" },
		"another value":        func(x *api.Item) { x.Doc.Values[1] = "" },
		"great letters":        func(x *api.Item) { x.Doc.Values[0] = "One" },
		"another body":         func(x *api.Item) { x.Doc.Body[0] += " " },
		"no body":              func(x *api.Item) { x.Doc.Body = nil },
		"one more body":        func(x *api.Item) { x.Doc.Body = append(x.Doc.Body, "") },
		"one field more":       func(x *api.Item) { x.Doc.Names, x.Doc.Values = append(x.Doc.Names, "a"), append(x.Doc.Values, "b") },
		"no fields":            func(x *api.Item) { x.Doc.Names, x.Doc.Values = nil, nil },
		"fields in turn":       func(x *api.Item) { slices.Reverse(x.Doc.Names); slices.Reverse(x.Doc.Values) },
		"another mail's":       func(x *api.Item) { x.Doc = items(3)[0].Doc },
		"another, of that day": func(x *api.Item) { *x = api.Item{Uid: 1, Inner: x.Inner, Doc: mail.Read("")} },
	} {
		refused(t, what, turned(turn), api.ErrCode)
	}
}

// item tells one made by hand.
func item(uid uint32, body ...string) api.Item {
	return api.Item{Uid: uid, Doc: api.Doc{Body: body}}
}

// 22.1
func TestItemsAndSeek(t *testing.T) {
	for what, c := range map[string]struct {
		v     api.View
		items []api.Item
		found []uint32 // of "ello"
	}{
		"nothing":               {api.View{}, nil, nil},
		"empty lists":           {api.View{Segs: [][]api.Item{{}, nil}, Fresh: []api.Item{}, Dead: []uint32{}}, nil, nil},
		"fresh alone":           {api.View{Fresh: []api.Item{item(3, "hello"), item(5, "x")}}, []api.Item{item(3, "hello"), item(5, "x")}, []uint32{3}},
		"segments alone":        {api.View{Segs: [][]api.Item{{item(3, "hello")}, {item(5, "x", "cellos")}}}, []api.Item{item(3, "hello"), item(5, "x", "cellos")}, []uint32{3, 5}},
		"out of order":          {api.View{Segs: [][]api.Item{{item(9, "ello")}, {item(2), item(1, "mellow")}}, Fresh: []api.Item{item(4, "yello"), item(0, "ello")}}, []api.Item{item(0, "ello"), item(1, "mellow"), item(2), item(4, "yello"), item(9, "ello")}, []uint32{0, 1, 4, 9}},
		"dead":                  {api.View{Segs: [][]api.Item{{item(1, "ello"), item(2, "ello")}, {item(3, "ello")}}, Dead: []uint32{2, 3}}, []api.Item{item(1, "ello")}, []uint32{1}},
		"dead that fall":        {api.View{Segs: [][]api.Item{{item(1, "ello"), item(2, "ello")}, {item(3, "ello")}}, Dead: []uint32{3, 9, 3, 1}}, []api.Item{item(2, "ello")}, []uint32{2}},
		"dead, and fresh":       {api.View{Segs: [][]api.Item{{item(1, "x")}}, Fresh: []api.Item{item(1, "ello")}, Dead: []uint32{1}}, []api.Item{item(1, "ello")}, []uint32{1}},
		"twice in segments":     {api.View{Segs: [][]api.Item{{item(5), item(1, "ello")}, {item(1, "x"), item(2)}}}, []api.Item{item(1, "ello"), item(2), item(5)}, []uint32{1}},
		"twice, the other one":  {api.View{Segs: [][]api.Item{{item(1, "x"), item(2)}, {item(5), item(1, "ello")}}}, []api.Item{item(1, "x"), item(2), item(5)}, nil},
		"in segments and fresh": {api.View{Segs: [][]api.Item{{item(2, "x")}}, Fresh: []api.Item{item(2, "ello"), item(2, "y")}}, []api.Item{item(2, "x")}, nil},
		"thrice fresh":          {api.View{Fresh: []api.Item{item(2, "ello"), item(2, "y"), item(2, "z")}}, []api.Item{item(2, "ello")}, []uint32{2}},
		"the ends of numbers":   {api.View{Segs: [][]api.Item{{item(math.MaxUint32, "ello")}}, Fresh: []api.Item{item(0, "hell")}}, []api.Item{item(0, "hell"), item(math.MaxUint32, "ello")}, []uint32{math.MaxUint32}},
		"names without values":  {api.View{Fresh: []api.Item{{Uid: 4, Inner: -9, Doc: api.Doc{Size: -1, Names: []string{"ello", "a"}, Values: []string{"b"}}}}}, []api.Item{{Uid: 4, Inner: -9, Doc: api.Doc{Size: -1, Names: []string{"ello", "a"}, Values: []string{"b"}}}}, []uint32{4}},
		"no mails of the box":   {api.View{Box: boxOf(changes()...), Manifest: some().manifest}, nil, nil},
	} {
		if l := index.Items(c.v); !sameItems(l, c.items) {
			t.Errorf("%s: Items tells %v, not %v", what, l, c.items)
		}
		if l := index.Seek(c.v, "ello"); !slices.Equal(l, c.found) {
			t.Errorf("%s: Seek tells %d, not %d", what, l, c.found)
		}
	}
}

// 22.1: what asks for parts of three letters
func TestSeek(t *testing.T) {
	v, errno := index.Load(some().disk())
	if errno != api.OK {
		t.Fatalf("Load: %d", errno)
	}
	for what, want := range map[string][]uint32{
		"":               {1, 3, 4, 6, 7},
		"z":              {1, 3, 4, 6, 7},
		"zz":             {1, 3, 4, 6, 7},
		"\xff\xfe":       {1, 3, 4, 6, 7},
		"\xff\xfe\xfd":   nil,
		"ell":            {1, 3, 4},
		"hel":            {1, 3},
		"hello":          {1, 3},
		"fell":           {4},
		"yel":            nil,
		"five":           nil,
		"elllo":          nil,
		"Hello":          nil,
		"t: o":           {1},
		"subject: seven": {7},
		"\u00e9\u00e9":   {1, 3, 4, 6, 7},
		"zzz":            nil,
	} {
		if l := index.Seek(v, what); !slices.Equal(l, want) {
			t.Errorf("Seek(%q) = %d, not %d", what, l, want)
		}
	}
}

// step is a change of a disk.
type step func(api.Fs) (api.Fs, api.Errno)

// steps tells those by which a file is made, and, if it has a new name, renamed; one of its name is deleted ahead.
func steps(d api.Fs, name, data, renamed string) []step {
	l := []step{
		func(d api.Fs) (api.Fs, api.Errno) { return disk.Create(d, name) },
		func(d api.Fs) (api.Fs, api.Errno) { return disk.Append(d, name, data) },
		func(d api.Fs) (api.Fs, api.Errno) { return disk.Sync(d, name) },
	}
	if slices.ContainsFunc(d.Files, func(f api.File) bool { return f.Name == name }) {
		l = slices.Insert(l, 0, func(d api.Fs) (api.Fs, api.Errno) { return disk.Delete(d, name) })
	}
	if renamed != "" {
		l = append(l, func(d api.Fs) (api.Fs, api.Errno) { return disk.Rename(d, name, renamed) })
	}
	return l
}

// run does steps up to the first one that fails.
func run(d api.Fs, l []step) (api.Fs, api.Errno) {
	var errno api.Errno
	for _, do := range l {
		if d, errno = do(d); errno != api.OK {
			break
		}
	}
	return d, errno
}

// call is a Flush or a Merge.
type call func(api.Fs) (api.Fs, int, api.Errno)

// merging tells a Merge of a fan as a call.
func merging(fan int) call {
	return func(d api.Fs) (api.Fs, int, api.Errno) { return index.Merge(d, fan) }
}

// collecting tells a Collect as a call.
func collecting(d api.Fs) (api.Fs, int, api.Errno) {
	d, errno := index.Collect(d)
	return d, 0, errno
}

// failsAtEach does a call that would do these steps, and tell n, with each failure at each of them, and looks at what is there then, and behind crashes: the same items.
func failsAtEach(t *testing.T, what string, d api.Fs, do call, l []step, n int) {
	t.Helper()
	v, errno := index.Load(d)
	if errno != api.OK {
		t.Fatalf("%s: Load: %d", what, errno)
	}
	all := boxItems(v.Box)
	for at := -1; at <= len(l); at++ {
		for _, power := range []bool{true, false} {
			what := fmt.Sprintf("%s, at step %d of %d, the power: %v", what, at, len(l), power)
			start := d
			if power {
				start.Fuse = at
			} else {
				start.Fault = at
			}
			want, wantErrno := run(start, l)
			told := n
			if wantErrno != api.OK {
				told = 0
			}
			if (wantErrno == api.OK) != (at < 0 || at == len(l)) {
				t.Fatalf("%s: the steps end with %d", what, wantErrno)
			}
			got, n, errno := do(start)
			if !sameFs(got, want) || n != told || errno != wantErrno {
				t.Errorf("%s: %v, %d, %d, not %v, %d, %d", what, got, n, errno, want, told, wantErrno)
			}
			for _, keep := range []int{-1, 0, 1, 30, 1 << 20} {
				crashed, _ := disk.Crash(got, slices.Repeat([]int{keep}, len(got.Files))...)
				sameAsAhead(t, what, crashed, all)
			}
			got.Down = false
			sameAsAhead(t, what, got, all)
		}
	}
}

// sameAsAhead sees that a disk has these items.
func sameAsAhead(t *testing.T, what string, d api.Fs, all []api.Item) {
	t.Helper()
	v, errno := index.Load(d)
	if l := index.Items(v); !sameItems(l, all) || errno != api.OK {
		t.Errorf("%s: the items are %v, %d", what, l, errno)
	}
}

// 22.2
func TestFlush(t *testing.T) {
	d := some().disk()
	got, n, errno := index.Flush(d)
	if want := flushed().disk(); !sameFs(got, want) || n != 2 || errno != api.OK {
		t.Errorf("Flush tells %v, %d, %d, not %v", got, n, errno, want)
	}
	v := someView()
	v.Manifest, v.Segs, v.Fresh = flushed().manifest, flushed().segs, nil
	has(t, "flushed", got, v)
	if again, n, errno := index.Flush(got); !sameFs(again, got) || n != 0 || errno != api.ErrNone {
		t.Errorf("flushed again: %v, %d, %d", again, n, errno)
	}
}

// 22.2, P2: when there is nothing to be flushed
func TestNothingToBeFlushed(t *testing.T) {
	is := func(what string, x indexed, want api.Errno, manifest api.Manifest) {
		t.Helper()
		d := x.disk()
		got, n, errno := index.Flush(d)
		if errno != want || n != 0 || errno != api.OK && !sameFs(got, d) {
			t.Errorf("%s: %v, %d, %d, not %d", what, got, n, errno, want)
		}
		if m, _ := manif.Load(got); errno == api.OK && !sameManifest(m, manifest) {
			t.Errorf("%s: the manifest is %v, not %v", what, m, manifest)
		}
		if errno == api.OK && len(got.Files) != len(d.Files) {
			t.Errorf("%s: there are %d files", what, len(got.Files))
		}
	}
	upto := func(upto uint64, dead ...uint32) indexed {
		x := flushed()
		x.manifest.Upto, x.manifest.Dead = upto, dead
		return x
	}
	next := flushed().manifest
	next.Gen++
	is("all is flushed", upto(13, 2, 5), api.ErrNone, next)
	is("more dead than there are", upto(13, 1, 2, 3, 5, 99), api.ErrNone, next)
	is("one dead is not in the manifest", upto(13, 2), api.OK, next)
	is("the other one is not", upto(13, 5), api.OK, next)
	is("none of the dead is", upto(13), api.OK, next)
	is("others are", upto(13, 1, 3, 4, 6), api.OK, next)
	for _, n := range []uint64{14, 15, 1000, api.MaxId} {
		is(fmt.Sprintf("up to %d", n), upto(n, 2, 5), api.OK, next)
	}
	last := flushed() // the last record is of no mail
	last.changes = append(last.changes, api.Change{Kind: api.ChangeSelect})
	next.Upto = 14
	is("not up to the last record", last, api.OK, next)
	last.manifest.Upto = 14
	is("up to the last record", last, api.ErrNone, next)
	is("an empty box with a manifest", indexed{manifest: api.Manifest{Upto: 1}}, api.ErrNone, next)
	is("an empty box, not up to it", indexed{}, api.OK, api.Manifest{Gen: 2, Upto: 1})
	bare := system(file("box", boxText()))
	want := system(file("box", boxText()), file("index", manifest(api.Manifest{Gen: 1, Upto: 1})))
	if got, n, errno := index.Flush(bare); !sameFs(got, want) || n != 0 || errno != api.OK {
		t.Errorf("an empty box without a manifest: %v, %d, %d", got, n, errno)
	}
}

// 22.2: a file of the new segment's name, and index.new, are there already
func TestFlushBesideWhatIsLeft(t *testing.T) {
	want := flushed().disk()
	for what, left := range map[string]api.File{
		"a segment's file":        file(name(9), "left over"),
		"one that waits":          {Name: name(9), Data: "left over", Synced: 3},
		"a whole one":             file(name(9), segment(items(6, 7)...)),
		"the beginning of one":    file(name(9), segment(items(6, 7)...)[:9]),
		"a segment of other ones": file(name(9), segment(items(1)...)),
		"index.new":               file("index.new", "left over"),
		"a whole index.new":       file("index.new", manifest(api.Manifest{Gen: 99})),
	} {
		if got, n, errno := index.Flush(with(some().disk(), left)); !sameFs(got, want) || n != 2 || errno != api.OK {
			t.Errorf("beside %s: %v, %d, %d", what, got, n, errno)
		}
	}
}

// newIndex tells the steps by which a manifest is committed.
func newIndex(d api.Fs, m api.Manifest) []step {
	return steps(d, "index.new", manifest(m), "index")
}

// 22.2, 22.7: each failure at each place
func TestFlushThatFailsAtEachStep(t *testing.T) {
	new := segment(items(6, 7)...)
	for what, left := range map[string][]api.File{
		"nothing":          nil,
		"a segment's file": {{Name: name(9), Data: "left over", Synced: 4}},
		"index.new":        {file("index.new", "left over")},
		"both":             {file("index.new", ""), {Name: name(9)}},
	} {
		d := some().disk()
		for _, f := range left {
			d = with(d, f)
		}
		l := slices.Concat(steps(d, name(9), new, ""), newIndex(d, flushed().manifest))
		failsAtEach(t, "beside "+what, d, index.Flush, l, 2)
	}
	dead := flushed() // no segment is made
	dead.manifest.Dead = []uint32{2}
	m := flushed().manifest
	m.Gen++
	failsAtEach(t, "of dead alone", dead.disk(), index.Flush, newIndex(dead.disk(), m), 0)
	bare := system(file("box", boxText(changes()...)))
	m = api.Manifest{Gen: 1, Next: 1, Segs: []api.SegRef{{Id: 0, Items: 5}}, Upto: 13}
	l := slices.Concat(steps(bare, name(0), segment(items(1, 3, 4, 6, 7)...), ""), newIndex(bare, m))
	failsAtEach(t, "the first one", bare, index.Flush, l, 5)
}

// used tells how many bytes a disk's files have.
func used(d api.Fs) int {
	n := 0
	for _, f := range d.Files {
		n += len(f.Data)
	}
	return n
}

// 22.2, 22.3, 22.7: a disk without room
func TestWithoutRoom(t *testing.T) {
	new, merged := segment(items(6, 7)...), segment(items(1, 3, 4)...)
	m := some().manifest
	m.Gen, m.Next, m.Segs, m.Dead = 4, 10, []api.SegRef{{Id: 9, Items: 3}}, nil
	for what, c := range map[string]struct {
		do       call
		segment  string
		manifest api.Manifest
	}{
		"Flush": {index.Flush, new, flushed().manifest},
		"Merge": {merging(2), merged, m},
	} {
		start := some().disk()
		if what == "Merge" {
			x := some()
			x.segs, x.manifest.Segs = [][]api.Item{items(1, 2, 3), items(4, 5)}, []api.SegRef{{Id: 2, Items: 3}, {Id: 5, Items: 2}}
			start = x.disk()
		}
		l := slices.Concat(steps(start, name(9), c.segment, ""), newIndex(start, c.manifest))
		index1 := manifest(c.manifest)
		for _, room := range []int{0, 1, len(c.segment) - 1, len(c.segment), len(c.segment) + 1, len(c.segment) + len(index1) - 1, len(c.segment) + len(index1)} {
			d := start
			d.Room = used(start) + room
			want, wantErrno := run(d, l)
			if (wantErrno == api.OK) != (room == len(c.segment)+len(index1)) {
				t.Fatalf("%s: the steps end with %d", what, wantErrno)
			}
			got, _, errno := c.do(d)
			if !sameFs(got, want) || errno != wantErrno {
				t.Errorf("%s with room for %d: %v, %d, not %v, %d", what, room, got, errno, want, wantErrno)
			}
			sameAsAhead(t, what, got, items(1, 3, 4, 6, 7))
		}
		full := start
		for i := 0; len(full.Files) < api.MaxFiles; i++ {
			full = with(full, file(fmt.Sprintf("x%04d", i), ""))
		}
		if got, n, errno := c.do(full); !sameFs(got, full) || n != 0 || errno != api.ErrFull {
			t.Errorf("%s beside MaxFiles files: %d, %d", what, n, errno)
		}
		one := without(full, "x0000") // there is one for the segment, and none for index.new
		if got, n, errno := c.do(one); !sameFs(got, with(one, file(name(9), c.segment))) || n != 0 || errno != api.ErrFull {
			t.Errorf("%s beside MaxFiles files but one: %d, %d", what, n, errno)
		}
	}
}

// manySegs tells an index of so many segments, the last ones of them with the mails of changes, and the Ids up to Next.
func manySegs(many int, next uint64) indexed {
	x := indexed{changes: changes(), manifest: api.Manifest{Gen: 1, Next: next, Upto: 8}}
	for i := range many {
		var l []api.Item
		switch i {
		case many - 2:
			l = items(1, 2, 3)
		case many - 1:
			l = items(4)
		}
		x.segs = append(x.segs, l)
		x.manifest.Segs = append(x.manifest.Segs, api.SegRef{Id: next - uint64(many-i), Items: len(l)})
	}
	return x
}

// 22.2, P2: too many segments, or numbers of them
func TestFlushThatIsFull(t *testing.T) {
	for _, c := range []struct {
		segs  int
		next  uint64
		errno api.Errno
	}{
		{api.MaxSegs - 1, 1000, api.OK},
		{api.MaxSegs, 1000, api.ErrFull},
		{3, api.MaxId - 1, api.OK},
		{3, api.MaxId, api.ErrFull},
		{api.MaxSegs - 1, api.MaxId - 1, api.OK},
		{api.MaxSegs, api.MaxId, api.ErrFull},
	} {
		what := fmt.Sprintf("%d segments, Next %d", c.segs, c.next)
		d := manySegs(c.segs, c.next).disk()
		got, n, errno := index.Flush(d)
		if errno != c.errno || errno != api.OK && (n != 0 || !sameFs(got, d)) || errno == api.OK && n != 2 {
			t.Errorf("%s: %d, %d, not %d", what, n, errno, c.errno)
		}
		if errno == api.OK {
			m, _ := manif.Load(got)
			if m.Next != c.next+1 || len(m.Segs) != c.segs+1 || m.Segs[c.segs] != (api.SegRef{Id: c.next, Items: 2}) || !slices.Equal(m.Dead, []uint32{2}) || m.Upto != 13 {
				t.Errorf("%s: the manifest is %v", what, m)
			}
		}
		sameAsAhead(t, what, got, items(1, 3, 4, 6, 7))
	}
	dead := manySegs(api.MaxSegs, 1000) // the chapter asks that of what has nothing fresh, too
	dead.changes, dead.manifest.Upto = dead.changes[:6], 7
	if got, n, errno := index.Flush(dead.disk()); !sameFs(got, dead.disk()) || n != 0 || errno != api.ErrFull {
		t.Errorf("of dead alone: %d, %d", n, errno)
	}
	done := manySegs(api.MaxSegs, api.MaxId) // nothing to be flushed is told ahead
	done.changes, done.manifest.Upto, done.manifest.Dead = done.changes[:6], 7, []uint32{2}
	if got, n, errno := index.Flush(done.disk()); !sameFs(got, done.disk()) || n != 0 || errno != api.ErrNone {
		t.Errorf("of nothing: %d, %d", n, errno)
	}
}

// letters tells a mail of so many letters by chance: nearly all of its parts of three are no other mail's.
func letters(from int64, many int) string {
	r := rand.New(rand.NewSource(from))
	var b strings.Builder
	b.WriteString("Content-Type: text/plain; charset=utf-8\n\n")
	for range many {
		b.WriteRune(rune(0x4e00 + r.Intn(20000)))
	}
	return b.String()
}

// great tells changes by which so many mails come whose parts are too many for one segment, if there are four of them or more.
func great(many int) []api.Change {
	var l []api.Change
	for i := range many {
		l = append(l, came(i, letters(int64(i), 20000)))
	}
	return l
}

// itemsBetween tells the items of mails of a box.
func itemsBetween(l []api.Change, from, to uint32) []api.Item {
	return slices.DeleteFunc(boxItems(boxOf(l...)), func(x api.Item) bool { return x.Uid < from || x.Uid > to })
}

// 22.2, 22.3, P2, P3: a segment that would be too long
func TestSegmentsThatWouldBeTooLong(t *testing.T) {
	l := great(4)
	if _, errno := seg.Build(itemsBetween(l, 1, 4)...); errno != api.ErrLong {
		t.Fatalf("four are not too many: %d", errno)
	}
	bare := system(file("box", boxText(l...)))
	if got, n, errno := index.Flush(bare); !sameFs(got, bare) || n != 0 || errno != api.ErrLong {
		t.Errorf("Flush tells %d, %d, not ErrLong", n, errno)
	}
	if got, n, errno := index.Flush(system(file("box", boxText(l[:2]...)))); n != 2 || errno != api.OK {
		t.Errorf("Flush of two tells %d files, %d, %d", len(got.Files), n, errno)
	}
	two := [][]api.Item{itemsBetween(l, 1, 2), itemsBetween(l, 3, 4)}
	for _, next := range []uint64{2, api.MaxId} { // that there is no number is asked behind
		d := indexed{l, api.Manifest{Upto: 5, Next: next}, two}.disk()
		if got, n, errno := index.Merge(d, 2); !sameFs(got, d) || n != 0 || errno != api.ErrLong {
			t.Errorf("Merge with Next %d tells %d, %d, not ErrLong", next, n, errno)
		}
	}
	d := indexed{l, api.Manifest{Upto: 0, Next: api.MaxId}, nil}.disk()
	if got, n, errno := index.Flush(d); !sameFs(got, d) || n != 0 || errno != api.ErrLong {
		t.Errorf("Flush with Next MaxId tells %d, %d, not ErrLong", n, errno)
	}
	some := slices.Concat(l, gone(3)) // without one of them there are few enough
	d = indexed{some, api.Manifest{Upto: 5}, two}.disk()
	if got, n, errno := index.Merge(d, 2); n != 2 || errno != api.OK {
		t.Errorf("Merge with a dead one tells %d files, %d, %d", len(got.Files), n, errno)
	}
}

// 22.2: as many items as a segment may have; there are no more mails in a box
func TestFlushOfMaxItems(t *testing.T) {
	if api.MaxMails > api.MaxItems {
		t.Fatal("a box may have more mails than a segment items")
	}
	l := slices.Repeat([]api.Change{came(1, "")}, api.MaxMails)
	d := system(file("box", boxText(l...)))
	got, n, errno := index.Flush(d)
	if n != api.MaxItems || errno != api.OK {
		t.Fatalf("Flush: %d, %d", n, errno)
	}
	v, errno := index.Load(got)
	if errno != api.OK || len(v.Segs) != 1 || len(v.Segs[0]) != api.MaxItems || len(v.Fresh) != 0 {
		t.Errorf("flushed, Load tells %d", errno)
	}
	more := boxText(slices.Concat(l, gone(1), []api.Change{came(2, "\nhello")})...) // one in its place is the next segment's
	got, n, errno = index.Flush(with(got, file("box", more)))
	if n != 1 || errno != api.OK {
		t.Fatalf("Flush of one more: %d, %d", n, errno)
	}
	v, errno = index.Load(got)
	if l := index.Seek(v, "hello"); !slices.Equal(l, []uint32{api.MaxMails + 1}) || len(index.Items(v)) != api.MaxMails || errno != api.OK {
		t.Errorf("flushed, %d are found, %d", l, errno)
	}
	got, n, errno = index.Merge(got, 2)
	if n != 0 || errno != api.ErrNone {
		t.Errorf("Merge of 4096 and 1: %d, %d", n, errno)
	}
}

// 22.2: a Gen beyond which there is none: the manifest is refused behind the segment
func TestTheGreatestGen(t *testing.T) {
	x := some()
	x.manifest.Gen = math.MaxUint64
	d := x.disk()
	if got, n, errno := index.Flush(d); !sameFs(got, with(d, file(name(9), segment(items(6, 7)...)))) || n != 0 || errno != api.ErrForm {
		t.Errorf("Flush: %v, %d, %d", got, n, errno)
	}
	if got, n, errno := index.Merge(d, 2); !sameFs(got, with(d, file(name(9), segment(items(1, 3, 4)...)))) || n != 0 || errno != api.ErrForm {
		t.Errorf("Merge: %v, %d, %d", got, n, errno)
	}
}

// 22.3
func TestMerge(t *testing.T) {
	three := indexed{changes(), api.Manifest{Gen: 7, Next: 30, Segs: []api.SegRef{{Id: 2, Items: 1}, {Id: 5, Items: 4}, {Id: 29, Items: 1}}, Dead: []uint32{2, 3, 99}, Upto: 11}, [][]api.Item{items(2), items(1, 3, 4, 5), items(6)}}
	got, n, errno := index.Merge(three.disk(), 2)
	want := three.disk()
	want = with(want, file(name(30), segment(items(6)...)))
	m := api.Manifest{Gen: 8, Next: 31, Segs: []api.SegRef{{Id: 5, Items: 4}, {Id: 30, Items: 1}}, Dead: []uint32{5}, Upto: 11}
	want = with(want, file("index", manifest(m)))
	if !sameFs(got, want) || n != 2 || errno != api.OK {
		t.Errorf("Merge tells %v, %d, %d, not %v", got, n, errno, want)
	}
	has(t, "merged", got, api.View{Box: boxOf(changes()...), Manifest: m, Segs: [][]api.Item{items(1, 3, 4, 5), items(6)}, Fresh: items(7), Dead: []uint32{5}})
	if again, n, errno := index.Merge(got, 2); !sameFs(again, got) || n != 0 || errno != api.ErrNone {
		t.Errorf("merged again: %v, %d, %d", again, n, errno)
	}
}

// 22.3, P2, P3
func TestFans(t *testing.T) {
	for _, segs := range []int{0, 1, 3, api.MaxFan - 1, api.MaxFan, api.MaxFan + 1, api.MaxSegs} {
		x := manySegs(max(segs, 2), 400)
		if segs < 2 {
			x = indexed{changes(), api.Manifest{}, [][]api.Item{{}}[:segs]}
		}
		d := x.disk()
		for _, fan := range []int{math.MinInt, -1, 0, 1, api.MinFan, 3, api.MaxFan, api.MaxFan + 1, math.MaxInt} {
			want, many := api.OK, 0
			sizes := make([]int, len(x.segs))
			for i, l := range x.segs {
				sizes[i] = max(1, len(l))
			}
			switch picked, _ := tier.Pick(sizes, fan); {
			case fan < api.MinFan || fan > api.MaxFan:
				want = api.ErrRange
			case len(picked) == 0:
				want = api.ErrNone
			default:
				many = fan
			}
			got, n, errno := index.Merge(d, fan)
			if n != many || errno != want || errno != api.OK && !sameFs(got, d) {
				t.Errorf("%d segments, fan %d: %d, %d, not %d, %d", segs, fan, n, errno, many, want)
			}
			v, errno := index.Load(got)
			if want == api.OK && len(v.Segs) != len(x.segs)-fan+1 || errno != api.OK {
				t.Errorf("%d segments, fan %d: there are %d, %d", segs, fan, len(v.Segs), errno)
			}
		}
	}
}

// 22.3: what is picked: nothing, some, all, and segments without items
func TestWhichSegmentsAreMerged(t *testing.T) {
	for what, c := range map[string]struct {
		segs   [][]api.Item
		fan    int
		merged [][]api.Item // nil, if none are
		dead   []uint32
	}{
		"no two of one tier":      {[][]api.Item{items(1), items(3, 4), items(2, 5, 6, 7)}, 2, nil, nil},
		"all":                     {[][]api.Item{items(1, 3), items(4, 5), items(6, 7)}, 3, [][]api.Item{items(1, 3, 4, 6, 7)}, nil},
		"the first two":           {[][]api.Item{items(1, 3), items(4, 5), items(6, 7)}, 2, [][]api.Item{items(6, 7), items(1, 3, 4)}, nil},
		"the last two":            {[][]api.Item{items(1, 2, 3, 5), items(6), items(4, 7)}, 3, nil, nil},
		"the lowest tier":         {[][]api.Item{items(1, 3), items(6), items(4, 5), items(7)}, 2, [][]api.Item{items(1, 3), items(4, 5), items(6, 7)}, []uint32{5}},
		"mixed numbers":           {[][]api.Item{items(4, 7), items(1, 5), items(3, 6)}, 3, [][]api.Item{items(1, 3, 4, 6, 7)}, nil},
		"without items":           {[][]api.Item{{}, items(1, 2, 3, 4, 5, 6, 7), {}}, 2, [][]api.Item{items(1, 2, 3, 4, 5, 6, 7), {}}, []uint32{2, 5}},
		"one without, one of one": {[][]api.Item{{}, items(1, 3, 4, 5, 6, 7), items(2)}, 2, [][]api.Item{items(1, 3, 4, 5, 6, 7), {}}, []uint32{5}},
		"all dead":                {[][]api.Item{items(2), items(1, 3, 4, 6, 7), items(5)}, 2, [][]api.Item{items(1, 3, 4, 6, 7), {}}, nil},
		"dead in the others":      {[][]api.Item{items(1), items(2, 4, 5, 7), items(3), items(6)}, 3, [][]api.Item{items(2, 4, 5, 7), items(1, 3, 6)}, []uint32{2, 5}},
	} {
		for _, told := range [][]uint32{nil, {2}, {2, 5}} { // what the manifest has of the dead is not what is told
			x := indexed{changes(), api.Manifest{Upto: 13, Dead: told}, c.segs}
			d := x.disk()
			got, n, errno := index.Merge(d, c.fan)
			if c.merged == nil {
				if !sameFs(got, d) || n != 0 || errno != api.ErrNone {
					t.Errorf("%s: %v, %d, %d, not ErrNone", what, got, n, errno)
				}
				continue
			}
			if n != c.fan || errno != api.OK {
				t.Fatalf("%s: %d, %d", what, n, errno)
			}
			v, errno := index.Load(got)
			if errno != api.OK || !slices.EqualFunc(v.Segs, c.merged, sameItems) || !slices.Equal(v.Manifest.Dead, c.dead) || !slices.Equal(v.Dead, c.dead) || v.Manifest.Upto != 13 {
				t.Errorf("%s: merged, there are %v, %d", what, v, errno)
			}
			if last := v.Manifest.Segs[len(v.Manifest.Segs)-1]; last.Id != uint64(len(c.segs)) || v.Manifest.Next != last.Id+1 || v.Manifest.Gen != 2 {
				t.Errorf("%s: the manifest is %v", what, v.Manifest)
			}
		}
	}
}

// 22.3, P2: no number for one more segment
func TestMergeThatIsFull(t *testing.T) {
	d := manySegs(4, api.MaxId).disk()
	if got, n, errno := index.Merge(d, 3); !sameFs(got, d) || n != 0 || errno != api.ErrFull {
		t.Errorf("Next is MaxId: %d, %d", n, errno)
	}
	if got, n, errno := index.Merge(d, 5); !sameFs(got, d) || n != 0 || errno != api.ErrNone {
		t.Errorf("Next is MaxId, and nothing is picked: %d, %d", n, errno)
	}
	got, n, errno := index.Merge(manySegs(4, api.MaxId-1).disk(), 3)
	if m, _ := manif.Load(got); n != 3 || errno != api.OK || m.Next != api.MaxId || m.Segs[len(m.Segs)-1].Id != api.MaxId-1 {
		t.Errorf("Next is one less: %v, %d, %d", m, n, errno)
	}
	got, n, errno = index.Merge(manySegs(api.MaxSegs, 1000).disk(), 16) // MaxSegs are none too many to be merged
	if m, _ := manif.Load(got); n != 16 || errno != api.OK || len(m.Segs) != api.MaxSegs-15 {
		t.Errorf("MaxSegs segments: %d, %d", n, errno)
	}
}

// 22.3, 22.7: each failure at each place
func TestMergeThatFailsAtEachStep(t *testing.T) {
	m := some().manifest
	m.Gen, m.Next, m.Segs, m.Dead = 4, 10, []api.SegRef{{Id: 9, Items: 3}}, nil
	for what, left := range map[string][]api.File{
		"nothing":          nil,
		"a segment's file": {{Name: name(9), Data: "left over", Synced: 4}},
		"a whole one":      {file(name(9), segment(items(6, 7)...))},
		"index.new":        {file("index.new", "left over")},
		"both":             {file("index.new", ""), {Name: name(9)}},
	} {
		d := some().disk()
		for _, f := range left {
			d = with(d, f)
		}
		l := slices.Concat(steps(d, name(9), segment(items(1, 3, 4)...), ""), newIndex(d, m))
		failsAtEach(t, "beside "+what, d, merging(2), l, 2)
	}
}

// littered tells a disk with files of segments that its manifest does not name.
func littered(d api.Fs) api.Fs {
	for _, f := range []api.File{file("index.new", "x"), file("seg-", "x"), file(name(1), segment(items(1)...)), {Name: name(9), Data: "left over", Synced: 4}, file("seg-x", ""), file("seg", "stays"), file("a", "stays")} {
		d = with(d, f)
	}
	return d
}

// 22.4
func TestCollect(t *testing.T) {
	for what, d := range map[string]api.Fs{
		"a manifest":          some().disk(),
		"no manifest":         system(file("box", boxText(changes()...))),
		"one without segs":    indexed{changes: changes()}.disk(),
		"the greatest Gen":    indexed{changes: changes(), manifest: api.Manifest{Gen: math.MaxUint64}}.disk(),
		"an empty box":        system(file("box", boxText())),
		"a segment of no one": indexed{changes(), api.Manifest{}, [][]api.Item{{}}}.disk(),
	} {
		kept := with(with(d, file("seg", "stays")), file("a", "stays"))
		if got, errno := index.Collect(kept); !sameFs(got, kept) || errno != api.OK {
			t.Errorf("%s: nothing to be collected: %v, %d", what, got, errno)
		}
		if what == "a segment of no one" { // its file is called as one that is littered
			continue
		}
		start := littered(d)
		got, errno := index.Collect(start)
		if !sameFs(got, kept) || errno != api.OK {
			t.Errorf("%s: %v, %d, not %v", what, got, errno, kept)
		}
		var l []step
		for _, f := range start.Files {
			if !slices.ContainsFunc(kept.Files, func(g api.File) bool { return g.Name == f.Name }) {
				l = append(l, func(d api.Fs) (api.Fs, api.Errno) { return disk.Delete(d, f.Name) })
			}
		}
		if len(l) == 0 {
			t.Fatalf("%s: nothing is littered", what)
		}
		failsAtEach(t, what, start, collecting, l, 0)
	}
}

// 22.4, 22.3: what was merged is collected
func TestMergedAndCollected(t *testing.T) {
	d, _, errno := index.Merge(flushed().disk(), 2)
	if errno != api.OK {
		t.Fatalf("Merge: %d", errno)
	}
	names := func(d api.Fs) []string {
		l, _ := disk.List(d)
		return l
	}
	if l := names(d); !slices.Equal(l, []string{"box", "index", name(2), name(5), name(9), name(10)}) {
		t.Errorf("merged: %q", l)
	}
	d, errno = index.Collect(d)
	if l := names(d); !slices.Equal(l, []string{"box", "index", name(9), name(10)}) || errno != api.OK {
		t.Errorf("collected: %q, %d", l, errno)
	}
	sameAsAhead(t, "collected", d, items(1, 3, 4, 6, 7))
}

// words are what random mails are made of, and what is looked for.
var words = []string{"hello", "yellow", "\u00c9t\u00e9", "fell", "mellow", "there", "here", "ab", "x", "low hel"}

// randomMail tells one of some words.
func randomMail(r *rand.Rand) string {
	pick := func(n int) string {
		var l []string
		for range r.Intn(n) {
			l = append(l, words[r.Intn(len(words))])
		}
		return strings.Join(l, []string{" ", "", "\n"}[r.Intn(3)])
	}
	return "Content-Type: text/plain; charset=utf-8\nSubject: " + strings.ReplaceAll(pick(3), "\n", " ") + "\n\n" + pick(5)
}

// randomChange tells one of a box that is most times done.
func randomChange(r *rand.Rand, b api.Box) api.Change {
	var uids []uint32
	for _, m := range b.Messages {
		if r.Intn(4) == 0 {
			uids = append(uids, m.Uid)
		}
	}
	switch r.Intn(5) {
	case 0:
		return api.Change{Kind: api.ChangeAdd, Uids: uids, Flags: api.FlagDeleted}
	case 1:
		return api.Change{Kind: api.ChangeExpunge, Uids: uids}
	case 2:
		return api.Change{Kind: api.ChangeSelect}
	}
	return came(r.Intn(99), randomMail(r))
}

// allFound sees that of the mails of a view none that has what is looked for is missing, and that no more are told than have its parts.
func allFound(t *testing.T, v api.View) {
	t.Helper()
	for _, word := range words {
		what := mail.What([]int32(strings.ToLower(word))...)
		found := index.Seek(v, what)
		var parted []uint32
		for _, x := range boxItems(v.Box) {
			if mail.InText(x.Doc, what) && !slices.Contains(found, x.Uid) {
				t.Fatalf("%q is in mail %d, that is not told", what, x.Uid)
			}
			if grams := mail.Grams(x.Doc); !slices.ContainsFunc(buf.Parts(what), func(p uint64) bool { return !slices.Contains(grams, p) }) {
				parted = append(parted, x.Uid)
			}
		}
		if !slices.Equal(found, parted) {
			t.Fatalf("Seek(%q) = %d, not %d", what, found, parted)
		}
	}
}

// 22.6, 22.7: changes and steps by chance, on a disk that fails by chance: the items are those of the box
func TestAllAndTheSame(t *testing.T) {
	r := rand.New(rand.NewSource(3))
	ended := map[api.Errno]int{}
	counts := map[string]int{}
	for i := range 30 {
		d, errno := store.Make(api.Fs{Room: []int{4000, 40000}[i%2], Fuse: -1, Fault: -1}, 5)
		if errno != api.OK {
			t.Fatalf("Make: %d", errno)
		}
		for range 60 {
			if d.Fuse, d.Fault = -1, -1; r.Intn(3) == 0 {
				d.Fuse, d.Fault = r.Intn(11)-1, r.Intn(11)-1
			}
			v, errno := index.Load(d)
			if errno != api.OK {
				t.Fatalf("Load: %d", errno)
			}
			did := []string{"Do", "Do", "Do", "Flush", "Merge", "Collect"}[r.Intn(6)]
			switch did {
			case "Do":
				d, _, errno = store.Do(d, randomChange(r, v.Box))
			case "Flush":
				d, _, errno = index.Flush(d)
			case "Merge":
				d, _, errno = index.Merge(d, 2+r.Intn(2))
			case "Collect":
				d, errno = index.Collect(d)
			}
			ended[errno]++
			if errno == api.OK {
				counts[did]++
			}
			if d.Down {
				d, _ = disk.Crash(d, r.Intn(90), r.Intn(90), r.Intn(90), r.Intn(90))
				d, _ = store.Recover(d)
			}
			now, errno := index.Load(d)
			if errno != api.OK {
				t.Fatalf("behind %s: Load: %d", did, errno)
			}
			if did != "Do" && !sameBox(now.Box, v.Box) {
				t.Fatalf("%s has changed the box", did)
			}
			if !sameItems(index.Items(now), boxItems(now.Box)) {
				t.Fatalf("behind %s the items are not those of the box", did)
			}
			allFound(t, now)
		}
	}
	for _, errno := range []api.Errno{api.OK, api.ErrNone, api.ErrPower, api.ErrFault, api.ErrFull} {
		if ended[errno] < 10 {
			t.Errorf("%d ended with %d", ended[errno], errno)
		}
	}
	for _, did := range []string{"Do", "Flush", "Merge", "Collect"} {
		if counts[did] < 20 {
			t.Errorf("%s ended well %d times", did, counts[did])
		}
	}
}

// P10: merged till nothing is picked, there are few segments, and collected no other files of segments
func TestFewSegments(t *testing.T) {
	d, errno := store.Make(system(), 5)
	for i := range 40 {
		if d, _, errno = store.Do(d, came(i, "\nhello")); errno != api.OK {
			t.Fatalf("Do: %d", errno)
		}
		if d, _, errno = index.Flush(d); errno != api.OK {
			t.Fatalf("Flush: %d", errno)
		}
		for errno == api.OK {
			d, _, errno = index.Merge(d, 3)
		}
		if errno != api.ErrNone {
			t.Fatalf("Merge: %d", errno)
		}
		if d, errno = index.Collect(d); errno != api.OK {
			t.Fatalf("Collect: %d", errno)
		}
		m, _ := manif.Load(d)
		if most, _ := tier.Most(i+1, 3); len(m.Segs) > most || len(d.Files) != len(m.Segs)+2 {
			t.Errorf("%d mails: %d segments, %d files", i+1, len(m.Segs), len(d.Files))
		}
	}
}

// shares tells whether two texts have memory together.
func shares(a, b string) bool {
	if a == "" || b == "" {
		return false
	}
	from, to := uintptr(unsafe.Pointer(unsafe.StringData(a))), uintptr(unsafe.Pointer(unsafe.StringData(b)))
	return from < to+uintptr(len(b)) && to < from+uintptr(len(a))
}

// diskTexts tells all texts of a disk.
func diskTexts(d api.Fs) []string {
	var l []string
	for _, f := range d.Files {
		l = append(l, f.Name, f.Data)
	}
	return l
}

// itemTexts tells all texts of items.
func itemTexts(l []api.Item) []string {
	var all []string
	for _, x := range l {
		all = slices.Concat(all, x.Doc.Names, x.Doc.Values, x.Doc.Body)
	}
	return all
}

// viewTexts tells all texts of a view.
func viewTexts(v api.View) []string {
	l := itemTexts(v.Fresh)
	for _, s := range v.Segs {
		l = append(l, itemTexts(s)...)
	}
	for _, m := range v.Box.Messages {
		l = append(l, m.Raw)
	}
	return l
}

// noneShared sees that no text of the one list has memory with one of the other.
func noneShared(t *testing.T, what string, one, other []string) {
	t.Helper()
	for _, a := range one {
		for _, b := range other {
			if shares(a, b) {
				t.Errorf("%s: %.20q shares its memory", what, a)
			}
		}
	}
}

// copyOf tells the same disk in other memory.
func copyOf(d api.Fs) api.Fs {
	d.Files = slices.Clone(d.Files)
	for i := range d.Files {
		d.Files[i].Name, d.Files[i].Data = strings.Clone(d.Files[i].Name), strings.Clone(d.Files[i].Data)
	}
	return d
}

// 22.5
func TestDisksAreNewMemory(t *testing.T) {
	l := map[string]api.Fs{
		"some":         littered(some().disk()),
		"flushed":      flushed().disk(),
		"no manifest":  system(file("box", boxText(changes()...))),
		"no power":     down(some().disk()),
		"no box":       system(file("index", "x")),
		"not sound":    indexed{changes(), api.Manifest{}, [][]api.Item{items(1)}}.disk(),
		"many numbers": manySegs(api.MaxSegs, api.MaxId).disk(),
	}
	for what, d := range l {
		for fail := -1; fail < 12; fail++ {
			d.Fuse, d.Fault = fail, max(fail-2, -1)
			for named, do := range map[string]call{"Flush": index.Flush, "Merge": merging(2), "Merge of no fan": merging(0), "Collect": collecting} {
				was := copyOf(d)
				got, _, _ := do(d)
				if !sameFs(was, d) {
					t.Errorf("%s of %s: what is handed in is changed", named, what)
				}
				if len(got.Files) > 0 && &got.Files[0] == &d.Files[0] {
					t.Errorf("%s of %s: the files are the ones that were handed in", named, what)
				}
				if len(d.Files) < 20 {
					noneShared(t, named+" of "+what, diskTexts(got), diskTexts(d))
				}
			}
		}
	}
}

// 22.5
func TestViewsAreNewMemory(t *testing.T) {
	d := some().disk()
	was := copyOf(d)
	v, _ := index.Load(d)
	w, _ := index.Load(d)
	noneShared(t, "Load", viewTexts(v), diskTexts(d))
	noneShared(t, "two of Load", viewTexts(v), viewTexts(w))
	for i, a := range viewTexts(v) {
		for j, b := range viewTexts(v) {
			if i != j && shares(a, b) {
				t.Errorf("Load: %q and %q share their memory", a, b)
			}
		}
	}
	l := index.Items(v)
	noneShared(t, "Items", itemTexts(l), viewTexts(v))
	noneShared(t, "two of Items", itemTexts(l), itemTexts(index.Items(v)))
	if !sameView(v, someView()) {
		t.Errorf("Items has changed the view")
	}
	for i := range l { // a change of what is told is none of the view's
		l[i].Uid, l[i].Inner = 99, 99
		for _, m := range [][]string{l[i].Doc.Names, l[i].Doc.Values, l[i].Doc.Body} {
			for j := range m {
				m[j] = "changed"
			}
		}
	}
	if !sameView(v, someView()) {
		t.Errorf("the items that Items tells are the view's own")
	}
	for _, uids := range [][]uint32{v.Dead, v.Manifest.Dead} {
		for i := range uids {
			uids[i] = 77
		}
	}
	if !sameView(w, someView()) || !sameFs(d, was) {
		t.Errorf("a view is another one's, or the disk is changed")
	}
}

// 22.5: a view by hand that is out of order stays so
func TestAViewIsNotChanged(t *testing.T) {
	made := func() api.View {
		return api.View{Segs: [][]api.Item{{item(9, "ello"), item(2, "x")}, {item(2, "hello"), item(1, "y")}}, Fresh: []api.Item{item(4, "z"), item(3, "ello"), item(4, "ello")}, Dead: []uint32{9, 7, 1}}
	}
	v := made()
	index.Items(v)
	index.Seek(v, "ello")
	if !sameView(v, made()) {
		t.Errorf("the view is %v", v)
	}
	spare := make([]api.Item, 1, 9) // a list with room behind it
	spare[0] = item(1, "a")
	v = api.View{Segs: [][]api.Item{spare}, Fresh: []api.Item{item(2, "b")}}
	index.Items(v)
	index.Seek(v, "b")
	if rest := spare[:2][1]; rest.Uid != 0 {
		t.Errorf("%v stands behind a list of the view", rest)
	}
}

// P1, P3, P4: disks by chance are answered, alike each time, and nothing runs on
func TestAnyDiskIsAnswered(t *testing.T) {
	r := rand.New(rand.NewSource(4))
	ahead := runtime.NumGoroutine()
	ended := map[api.Errno]int{}
	for range 300 {
		d := copyOf(littered(some().disk()))
		for range r.Intn(3) {
			f := &d.Files[r.Intn(len(d.Files))]
			b := []byte(f.Data)
			if len(b) > 0 {
				b[r.Intn(len(b))] ^= 1 << r.Intn(8)
			}
			f.Data = string(b)
			if r.Intn(4) == 0 {
				*f = file(f.Name, f.Data[:r.Intn(len(f.Data)+1)])
			}
		}
		d.Fuse, d.Fault = r.Intn(12)-1, r.Intn(12)-1
		v, errno := index.Load(d)
		ended[errno]++
		if w, again := index.Load(d); !sameView(v, w) || errno != again {
			t.Fatalf("Load tells %d, and then %d", errno, again)
		}
		for _, do := range []call{index.Flush, merging(2), collecting} {
			one, n, errno := do(d)
			two, m, again := do(d)
			if !sameFs(one, two) || n != m || errno != again {
				t.Fatalf("a call tells %d, %d, and then %d, %d", n, errno, m, again)
			}
		}
	}
	if ended[api.OK] < 50 || ended[api.ErrCode] < 50 {
		t.Errorf("%v", ended)
	}
	if now := runtime.NumGoroutine(); now > ahead {
		t.Errorf("%d goroutines, %d ahead", now, ahead)
	}
}

// 22.1: the box that Load tells is store.Load's
func TestTheBoxOfAView(t *testing.T) {
	v, errno := index.Load(some().disk())
	b, _ := store.Load(some().disk())
	if uids, _ := box.Uids(v.Box); errno != api.OK || !sameBox(v.Box, b) || !slices.Equal(uids, []uint32{1, 3, 4, 6, 7}) {
		t.Errorf("%v, %d", v.Box, errno)
	}
}
