package disk_test

import (
	"fmt"
	"maps"
	"math"
	"math/rand"
	"reflect"
	"runtime"
	"slices"
	"strings"
	"testing"
	"unsafe"

	"missive/api"
	"missive/disk"
)

// The signatures that the chapter lists.
var (
	_ func(api.Fs) api.Errno                              = disk.Check
	_ func(int) (api.Fs, api.Errno)                       = disk.Make
	_ func(api.Fs, string) (api.Fs, api.Errno)            = disk.Create
	_ func(api.Fs, string, ...string) (api.Fs, api.Errno) = disk.Append
	_ func(api.Fs, string) (api.Fs, api.Errno)            = disk.Sync
	_ func(api.Fs, string, string) (api.Fs, api.Errno)    = disk.Rename
	_ func(api.Fs, string) (api.Fs, api.Errno)            = disk.Delete
	_ func(api.Fs, string) (string, api.Errno)            = disk.Read
	_ func(api.Fs) ([]string, api.Errno)                  = disk.List
	_ func(api.Fs, ...int) (api.Fs, api.Errno)            = disk.Crash
	_ func(api.Fs, string, int) (api.Fs, api.Errno)       = disk.Cut
)

// longName has MaxName bytes.
var longName = strings.Repeat("n", api.MaxName)

// same tells whether two file systems are alike; no files are as an empty list of them.
func same(a, b api.Fs) bool {
	files := slices.Equal(a.Files, b.Files)
	a.Files, b.Files = nil, nil
	return files && reflect.DeepEqual(a, b)
}

// some tells a file system of three files: of b two of four bytes are synced.
func some() api.Fs {
	return api.Fs{Room: 20, Fuse: -1, Fault: -1, Files: []api.File{
		{Name: "a", Data: "A", Synced: 1},
		{Name: "b", Data: "BCde", Synced: 2},
		{Name: "c"},
	}}
}

// full tells a file system of MaxFiles files.
func full() api.Fs {
	d := api.Fs{Room: 20, Fuse: -1, Fault: -1}
	for i := range api.MaxFiles {
		d.Files = append(d.Files, api.File{Name: fmt.Sprintf("f%04d", i)})
	}
	return d
}

// with tells d with a fuse and a fault.
func with(d api.Fs, fuse, fault int) api.Fs {
	d.Fuse, d.Fault = fuse, fault
	return d
}

// down tells d without power.
func down(d api.Fs) api.Fs {
	d.Down = true
	return d
}

// change is a call that asks what a change asks, some's files behind it, and those, if the power goes in it.
type change struct {
	name string
	do   func(api.Fs) (api.Fs, api.Errno)
	done []api.File
	torn []api.File
}

func changes() []change {
	a, b, c := some().Files[0], some().Files[1], some().Files[2]
	return []change{
		{"Create", func(d api.Fs) (api.Fs, api.Errno) { return disk.Create(d, "bb") }, []api.File{a, b, {Name: "bb"}, c}, some().Files},
		{"Append", func(d api.Fs) (api.Fs, api.Errno) { return disk.Append(d, "b", "f", "", "gh") },
			[]api.File{a, {Name: "b", Data: "BCdefgh", Synced: 2}, c}, []api.File{a, {Name: "b", Data: "BCdefgh", Synced: 2}, c}},
		{"Sync", func(d api.Fs) (api.Fs, api.Errno) { return disk.Sync(d, "b") }, []api.File{a, {Name: "b", Data: "BCde", Synced: 4}, c}, some().Files},
		{"Rename", func(d api.Fs) (api.Fs, api.Errno) { return disk.Rename(d, "b", "a") }, []api.File{{Name: "a", Data: "BCde", Synced: 2}, c}, some().Files},
		{"Delete", func(d api.Fs) (api.Fs, api.Errno) { return disk.Delete(d, "b") }, []api.File{a, c}, some().Files},
	}
}

// wrong tells file systems that are not right.
func wrong() map[string]api.Fs {
	l := map[string]api.Fs{
		"a room below 0":      {Room: -1, Fuse: -1, Fault: -1},
		"the least room":      {Room: math.MinInt, Fuse: -1, Fault: -1},
		"too much room":       {Room: api.MaxRoom + 1, Fuse: -1, Fault: -1},
		"a fuse below -1":     with(some(), -2, -1),
		"a fault below -1":    with(some(), -1, -2),
		"the least fuse":      with(some(), math.MinInt, 0),
		"the least fault":     with(some(), 0, math.MinInt),
		"too many files":      full(),
		"one byte too many":   some(),
		"too many in a file":  {Room: 3, Fuse: -1, Fault: -1, Files: []api.File{{Name: "a", Data: "1234"}}},
		"bytes without room":  {Fuse: -1, Fault: -1, Files: []api.File{{Name: "a", Data: "1"}}},
		"too long a name":     {Fuse: -1, Fault: -1, Files: []api.File{{Name: longName + "n"}}},
		"no name":             {Fuse: -1, Fault: -1, Files: []api.File{{}}},
		"no name at the end":  {Fuse: -1, Fault: -1, Files: []api.File{{Name: "a"}, {}}},
		"a name twice":        {Fuse: -1, Fault: -1, Files: []api.File{{Name: "a"}, {Name: "a"}}},
		"names that fall":     {Fuse: -1, Fault: -1, Files: []api.File{{Name: "a"}, {Name: "c"}, {Name: "b"}}},
		"names by length":     {Fuse: -1, Fault: -1, Files: []api.File{{Name: "b"}, {Name: "aa"}}},
		"synced below 0":      {Room: 9, Fuse: -1, Fault: -1, Files: []api.File{{Name: "a", Data: "1", Synced: -1}}},
		"synced above":        {Room: 9, Fuse: -1, Fault: -1, Files: []api.File{{Name: "a", Data: "1", Synced: 2}}},
		"synced far above":    {Room: 9, Fuse: -1, Fault: -1, Files: []api.File{{Name: "a", Synced: math.MaxInt}}},
		"synced wrong behind": {Room: 9, Fuse: -1, Fault: -1, Files: []api.File{{Name: "a"}, {Name: "b", Synced: 1}}},
	}
	d := l["too many files"]
	d.Files = append(d.Files, api.File{Name: "g"})
	l["too many files"] = d
	d = l["one byte too many"]
	d.Room = 4
	l["one byte too many"] = d
	for name, d := range maps.Clone(l) {
		l[name+", down"] = down(d)
	}
	return l
}

// shares tells whether two texts have a byte of memory together.
func shares(a, b string) bool {
	if a == "" || b == "" {
		return false
	}
	x, y := uintptr(unsafe.Pointer(unsafe.StringData(a))), uintptr(unsafe.Pointer(unsafe.StringData(b)))
	return x < y+uintptr(len(b)) && y < x+uintptr(len(a))
}

// textsOf tells all texts of a file system.
func textsOf(d api.Fs) []string {
	var l []string
	for _, f := range d.Files {
		l = append(l, f.Name, f.Data)
	}
	return l
}

// 4.1
func TestCheck(t *testing.T) {
	right := map[string]api.Fs{
		"a zero one":             {},
		"some files":             some(),
		"as many as may be":      full(),
		"no power":               down(some()),
		"all room":               {Room: api.MaxRoom},
		"a room that is full":    {Room: 5, Files: some().Files},
		"the longest name":       {Files: []api.File{{Name: longName}}},
		"the shortest name":      {Files: []api.File{{Name: "\x00"}}},
		"names of any bytes":     {Files: []api.File{{Name: "\n/"}, {Name: "\xfe"}, {Name: "\xff\x00"}}},
		"names that rise":        {Files: []api.File{{Name: "A"}, {Name: "a"}, {Name: "aa"}, {Name: "b"}}},
		"fuse and fault 0":       with(some(), 0, 0),
		"fuse and fault above":   with(some(), 7, math.MaxInt),
		"the greatest fuse":      with(some(), math.MaxInt, 7),
		"nothing synced, or all": {Room: 2, Files: []api.File{{Name: "a", Data: "1"}, {Name: "b", Data: "2", Synced: 1}}},
		"MaxRoom bytes":          {Room: api.MaxRoom, Files: []api.File{{Name: "a", Data: strings.Repeat("x", api.MaxRoom), Synced: api.MaxRoom}}},
	}
	for name, d := range right {
		if errno := disk.Check(d); errno != api.OK {
			t.Errorf("Check of %s: %d", name, errno)
		}
	}
	for name, d := range wrong() {
		if errno := disk.Check(d); errno != api.ErrForm {
			t.Errorf("Check of %s: %d", name, errno)
		}
	}
}

// 4.1, P2
func TestMake(t *testing.T) {
	for _, room := range []int{0, 1, 10, api.MaxRoom} {
		if d, errno := disk.Make(room); !same(d, api.Fs{Room: room, Fuse: -1, Fault: -1}) || errno != api.OK {
			t.Errorf("Make(%d) = %v, %d", room, d, errno)
		}
	}
	for _, room := range []int{-1, api.MaxRoom + 1, math.MinInt, math.MaxInt} {
		if d, errno := disk.Make(room); !same(d, api.Fs{}) || errno != api.ErrRange {
			t.Errorf("Make(%d) = %v, %d", room, d, errno)
		}
	}
}

// others are the calls that are handed a file system and tell one.
func others() map[string]func(api.Fs) (api.Fs, api.Errno) {
	l := map[string]func(api.Fs) (api.Fs, api.Errno){
		"Cut":          func(d api.Fs) (api.Fs, api.Errno) { return disk.Cut(d, "b", 1) },
		"Create twice": func(d api.Fs) (api.Fs, api.Errno) { return disk.Create(d, "b") },
		"Create none":  func(d api.Fs) (api.Fs, api.Errno) { return disk.Create(d, "") },
		"Append none":  func(d api.Fs) (api.Fs, api.Errno) { return disk.Append(d, "x") },
		"Append full":  func(d api.Fs) (api.Fs, api.Errno) { return disk.Append(d, "b", longName) },
		"Sync none":    func(d api.Fs) (api.Fs, api.Errno) { return disk.Sync(d, "x") },
		"Rename none":  func(d api.Fs) (api.Fs, api.Errno) { return disk.Rename(d, "x", "y") },
		"Rename wrong": func(d api.Fs) (api.Fs, api.Errno) { return disk.Rename(d, "b", "") },
		"Delete none":  func(d api.Fs) (api.Fs, api.Errno) { return disk.Delete(d, "x") },
		"Cut none":     func(d api.Fs) (api.Fs, api.Errno) { return disk.Cut(d, "x", 0) },
		"Cut wrong":    func(d api.Fs) (api.Fs, api.Errno) { return disk.Cut(d, "b", -1) },
	}
	for _, c := range changes() {
		l[c.name] = c.do
	}
	return l
}

// 4.1, P2
func TestWrongOnesAreRefusedFirst(t *testing.T) {
	calls := others()
	calls["Crash"] = func(d api.Fs) (api.Fs, api.Errno) { return disk.Crash(d, 1) }
	for what, d := range wrong() {
		for name, call := range calls {
			if got, errno := call(d); !same(got, api.Fs{}) || errno != api.ErrForm {
				t.Errorf("%s of %s: %v, %d", name, what, got, errno)
			}
		}
		for _, name := range []string{"a", "x"} {
			if s, errno := disk.Read(d, name); s != "" || errno != api.ErrForm {
				t.Errorf("Read of %s: %q, %d", what, s, errno)
			}
		}
		if l, errno := disk.List(d); len(l) != 0 || errno != api.ErrForm {
			t.Errorf("List of %s: %q, %d", what, l, errno)
		}
	}
}

// 4.1
func TestWithoutPowerAllIsAsItWas(t *testing.T) {
	for _, d := range []api.Fs{down(some()), down(with(some(), 0, 0)), down(with(some(), 3, 2))} {
		for name, call := range others() {
			if got, errno := call(d); !same(got, d) || errno != api.ErrPower {
				t.Errorf("%s without power: %v, %d", name, got, errno)
			}
		}
		for _, name := range []string{"a", "x"} {
			if s, errno := disk.Read(d, name); s != "" || errno != api.ErrPower {
				t.Errorf("Read without power: %q, %d", s, errno)
			}
		}
		if l, errno := disk.List(d); len(l) != 0 || errno != api.ErrPower {
			t.Errorf("List without power: %q, %d", l, errno)
		}
	}
}

// 4.1, 4.2: what a change asks.
func TestChangesAskForPowerAndLuck(t *testing.T) {
	for _, c := range changes() {
		for _, w := range []struct {
			fuse, fault int // ahead
			left, luck  int // behind
			errno       api.Errno
		}{
			{-1, -1, -1, -1, api.OK},
			{-1, 0, -1, -1, api.ErrFault},
			{-1, 1, -1, 0, api.OK},
			{-1, 5, -1, 4, api.OK},
			{0, -1, 0, -1, api.ErrPower},
			{0, 0, 0, 0, api.ErrPower},
			{0, 1, 0, 1, api.ErrPower},
			{1, -1, 0, -1, api.OK},
			{1, 0, 0, -1, api.ErrFault},
			{1, 1, 0, 0, api.OK},
			{7, 0, 6, -1, api.ErrFault},
			{7, 9, 6, 8, api.OK},
			{math.MaxInt, math.MaxInt, math.MaxInt - 1, math.MaxInt - 1, api.OK},
		} {
			want := with(some(), w.left, w.luck)
			switch w.errno {
			case api.OK:
				want.Files = c.done
			case api.ErrPower:
				want.Files, want.Down = c.torn, true
			}
			if got, errno := c.do(with(some(), w.fuse, w.fault)); !same(got, want) || errno != w.errno {
				t.Errorf("%s with %d and %d: %v, %d, not %v, %d", c.name, w.fuse, w.fault, got, errno, want, w.errno)
			}
		}
	}
}

// 4.1, 4.2, P3: a call's own errors are ahead of what a change asks, and use up nothing.
func TestOwnErrors(t *testing.T) {
	most := full()
	tight := some()
	tight.Room = 5
	for name, c := range map[string]struct {
		d     api.Fs
		call  func(api.Fs) (api.Fs, api.Errno)
		errno api.Errno
	}{
		"Create of no name":          {some(), func(d api.Fs) (api.Fs, api.Errno) { return disk.Create(d, "") }, api.ErrRange},
		"Create of too long a name":  {some(), func(d api.Fs) (api.Fs, api.Errno) { return disk.Create(d, longName+"n") }, api.ErrRange},
		"Create of one twice":        {some(), func(d api.Fs) (api.Fs, api.Errno) { return disk.Create(d, "c") }, api.ErrTwice},
		"Create of one too many":     {most, func(d api.Fs) (api.Fs, api.Errno) { return disk.Create(d, "x") }, api.ErrFull},
		"Create of no name, full":    {most, func(d api.Fs) (api.Fs, api.Errno) { return disk.Create(d, "") }, api.ErrRange},
		"Create of one twice, full":  {most, func(d api.Fs) (api.Fs, api.Errno) { return disk.Create(d, "f0000") }, api.ErrTwice},
		"Append to none":             {some(), func(d api.Fs) (api.Fs, api.Errno) { return disk.Append(d, "x", "y") }, api.ErrNone},
		"Append to none of too much": {tight, func(d api.Fs) (api.Fs, api.Errno) { return disk.Append(d, "x", "y") }, api.ErrNone},
		"Append to no name":          {some(), func(d api.Fs) (api.Fs, api.Errno) { return disk.Append(d, "") }, api.ErrNone},
		"Append of one byte more":    {tight, func(d api.Fs) (api.Fs, api.Errno) { return disk.Append(d, "b", "", "y", "") }, api.ErrFull},
		"Append of one more in all":  {some(), func(d api.Fs) (api.Fs, api.Errno) { return disk.Append(d, "c", "12345678", "12345678") }, api.ErrFull},
		"Append, too much behind":    {some(), func(d api.Fs) (api.Fs, api.Errno) { return disk.Append(d, "c", "1", longName) }, api.ErrFull},
		"Append, too much ahead":     {some(), func(d api.Fs) (api.Fs, api.Errno) { return disk.Append(d, "c", longName, "1") }, api.ErrFull},
		"Sync of none":               {some(), func(d api.Fs) (api.Fs, api.Errno) { return disk.Sync(d, "x") }, api.ErrNone},
		"Rename of none":             {some(), func(d api.Fs) (api.Fs, api.Errno) { return disk.Rename(d, "x", "a") }, api.ErrNone},
		"Rename of none to no name":  {some(), func(d api.Fs) (api.Fs, api.Errno) { return disk.Rename(d, "x", "") }, api.ErrNone},
		"Rename of no name":          {some(), func(d api.Fs) (api.Fs, api.Errno) { return disk.Rename(d, "", "a") }, api.ErrNone},
		"Rename to no name":          {some(), func(d api.Fs) (api.Fs, api.Errno) { return disk.Rename(d, "a", "") }, api.ErrRange},
		"Rename to too long a name":  {some(), func(d api.Fs) (api.Fs, api.Errno) { return disk.Rename(d, "a", longName+"n") }, api.ErrRange},
		"Delete of none":             {some(), func(d api.Fs) (api.Fs, api.Errno) { return disk.Delete(d, "bb") }, api.ErrNone},
		"Cut of none":                {some(), func(d api.Fs) (api.Fs, api.Errno) { return disk.Cut(d, "x", 0) }, api.ErrNone},
		"Cut of none, below 0":       {some(), func(d api.Fs) (api.Fs, api.Errno) { return disk.Cut(d, "x", -1) }, api.ErrNone},
		"Cut below 0":                {some(), func(d api.Fs) (api.Fs, api.Errno) { return disk.Cut(d, "b", -1) }, api.ErrRange},
		"Cut above":                  {some(), func(d api.Fs) (api.Fs, api.Errno) { return disk.Cut(d, "b", 5) }, api.ErrRange},
		"Cut at the least number":    {some(), func(d api.Fs) (api.Fs, api.Errno) { return disk.Cut(d, "b", math.MinInt) }, api.ErrRange},
		"Cut at the greatest number": {some(), func(d api.Fs) (api.Fs, api.Errno) { return disk.Cut(d, "b", math.MaxInt) }, api.ErrRange},
	} {
		for _, d := range []api.Fs{c.d, with(c.d, 0, 0), with(c.d, 2, 0), with(c.d, 0, 1), with(c.d, 1, 1)} {
			if got, errno := c.call(d); !same(got, d) || errno != c.errno {
				t.Errorf("%s with %d and %d: %d, not %d; %v", name, d.Fuse, d.Fault, errno, c.errno, got)
			}
		}
	}
}

// 4.2
func TestCreate(t *testing.T) {
	d, _ := disk.Make(0)
	for _, name := range []string{"m", "z", "a", longName, "ma", "\x00", "\xff"} {
		var errno api.Errno
		if d, errno = disk.Create(d, name); errno != api.OK {
			t.Fatalf("Create(%q): %d", name, errno)
		}
	}
	var want []api.File
	for _, name := range []string{"\x00", "a", "m", "ma", longName, "z", "\xff"} {
		want = append(want, api.File{Name: name})
	}
	if !slices.Equal(d.Files, want) || disk.Check(d) != api.OK {
		t.Errorf("created are %v", d.Files)
	}
	most := full()
	most.Files = most.Files[:api.MaxFiles-1]
	if d, errno := disk.Create(most, "x"); len(d.Files) != api.MaxFiles || errno != api.OK {
		t.Errorf("of MaxFiles the last one is not created: %d, %d", len(d.Files), errno)
	}
}

// 4.2
func TestAppend(t *testing.T) {
	for _, c := range []struct {
		name   string
		data   []string
		whole  string
		synced int
	}{
		{"b", nil, "BCde", 2},
		{"b", []string{""}, "BCde", 2},
		{"b", []string{"f"}, "BCdef", 2},
		{"b", []string{"f", "", "gh", "\x00\xff"}, "BCdefgh\x00\xff", 2},
		{"c", []string{"123456789012345"}, "123456789012345", 0},
		{"c", []string{"1234567890", "12345"}, "123456789012345", 0},
		{"a", []string{"x"}, "Ax", 1},
	} {
		want := some()
		for i := range want.Files {
			if want.Files[i].Name == c.name {
				want.Files[i].Data, want.Files[i].Synced = c.whole, c.synced
			}
		}
		if d, errno := disk.Append(some(), c.name, c.data...); !same(d, want) || errno != api.OK {
			t.Errorf("Append(%s, %q) = %v, %d", c.name, c.data, d, errno)
		}
	}
	d, _ := disk.Make(api.MaxRoom)
	d, _ = disk.Create(d, "a")
	all := strings.Repeat("x", api.MaxRoom)
	if d, errno := disk.Append(d, "a", all[1:], "y"); len(d.Files) != 1 || len(d.Files[0].Data) != api.MaxRoom || errno != api.OK {
		t.Errorf("MaxRoom bytes are not put: %d", errno)
	}
	if _, errno := disk.Append(d, "a", all, "y"); errno != api.ErrFull {
		t.Errorf("a byte more than MaxRoom: %d", errno)
	}
}

// 4.2: pieces are held against the room together, however many they are.
func TestAppendOfManyPieces(t *testing.T) {
	d := some()
	if got, errno := disk.Append(d, "a", slices.Repeat([]string{strings.Repeat("x", 1<<20)}, 5000)...); !same(got, d) || errno != api.ErrFull {
		t.Errorf("many pieces: %d", errno)
	}
}

// 4.2
func TestRename(t *testing.T) {
	a, b, c := some().Files[0], some().Files[1], some().Files[2]
	called := func(f api.File, name string) api.File {
		f.Name = name
		return f
	}
	for _, w := range []struct {
		from, to string
		want     []api.File
	}{
		{"a", "a", []api.File{a, b, c}},
		{"b", "b", []api.File{a, b, c}},
		{"a", "c", []api.File{b, called(a, "c")}},
		{"c", "a", []api.File{called(c, "a"), b}},
		{"b", "c", []api.File{a, called(b, "c")}},
		{"a", "z", []api.File{b, c, called(a, "z")}},
		{"c", "0", []api.File{called(c, "0"), a, b}},
		{"a", "bb", []api.File{b, called(a, "bb"), c}},
		{"b", "aa", []api.File{a, called(b, "aa"), c}},
		{"b", longName, []api.File{a, c, called(b, longName)}},
	} {
		want := some()
		want.Files = w.want
		if d, errno := disk.Rename(some(), w.from, w.to); !same(d, want) || errno != api.OK {
			t.Errorf("Rename(%s, %s) = %v, %d", w.from, w.to, d, errno)
		}
	}
}

// 4.2
func TestDelete(t *testing.T) {
	d := some()
	for left := 2; left >= 0; left-- {
		name := d.Files[left/2].Name
		var errno api.Errno
		if d, errno = disk.Delete(d, name); len(d.Files) != left || errno != api.OK || d.Room != 20 {
			t.Errorf("%s is deleted: %v, %d", name, d, errno)
		}
		if _, errno := disk.Read(d, name); errno != api.ErrNone {
			t.Errorf("%s was deleted, and is read: %d", name, errno)
		}
	}
}

// 4.2
func TestCutIsNoChange(t *testing.T) {
	for _, fuse := range []int{-1, 0, 1} {
		for _, fault := range []int{-1, 0, 1} {
			for n, want := range []api.File{
				{Name: "b"},
				{Name: "b", Data: "B", Synced: 1},
				{Name: "b", Data: "BC", Synced: 2},
				{Name: "b", Data: "BCd", Synced: 2},
				{Name: "b", Data: "BCde", Synced: 2},
			} {
				right := with(some(), fuse, fault)
				right.Files[1] = want
				if d, errno := disk.Cut(with(some(), fuse, fault), "b", n); !same(d, right) || errno != api.OK {
					t.Errorf("Cut at %d with %d and %d: %v, %d", n, fuse, fault, d, errno)
				}
			}
		}
	}
}

// 4.3, P2
func TestReadAndList(t *testing.T) {
	for _, d := range []api.Fs{some(), with(some(), 0, 0)} {
		for name, want := range map[string]string{"a": "A", "b": "BCde", "c": ""} {
			if s, errno := disk.Read(d, name); s != want || errno != api.OK {
				t.Errorf("Read(%s) = %q, %d", name, s, errno)
			}
		}
		for _, name := range []string{"", "0", "aa", "z", "A", longName + "n"} {
			if s, errno := disk.Read(d, name); s != "" || errno != api.ErrNone {
				t.Errorf("Read(%q) = %q, %d", name, s, errno)
			}
		}
		if l, errno := disk.List(d); !slices.Equal(l, []string{"a", "b", "c"}) || errno != api.OK {
			t.Errorf("List: %q, %d", l, errno)
		}
	}
	if l, errno := disk.List(api.Fs{}); len(l) != 0 || errno != api.OK {
		t.Errorf("List of none: %q, %d", l, errno)
	}
}

// 4.3
func TestCrash(t *testing.T) {
	whole := api.Fs{Room: 20, Fuse: 3, Fault: 2, Files: []api.File{
		{Name: "a", Data: "1234", Synced: 2},
		{Name: "b", Data: "56", Synced: 2},
		{Name: "c", Data: "789"},
	}}
	for _, c := range []struct {
		keep []int
		want []string
	}{
		{nil, []string{"12", "56", ""}},
		{[]int{0, 0, 0}, []string{"12", "56", ""}},
		{[]int{1}, []string{"123", "56", ""}},
		{[]int{2, 1}, []string{"1234", "56", ""}},
		{[]int{3, 0, 1}, []string{"1234", "56", "7"}},
		{[]int{0, 9, 3, 7, -1}, []string{"12", "56", "789"}},
		{[]int{-1, -2, 2}, []string{"12", "56", "78"}},
		{[]int{math.MaxInt, math.MaxInt, math.MaxInt}, []string{"1234", "56", "789"}},
		{[]int{math.MinInt, math.MinInt, math.MinInt}, []string{"12", "56", ""}},
	} {
		want := with(whole, -1, -1)
		want.Files = nil
		for i, s := range c.want {
			want.Files = append(want.Files, api.File{Name: whole.Files[i].Name, Data: s, Synced: len(s)})
		}
		for _, d := range []api.Fs{whole, down(whole), with(whole, 0, 0), down(with(whole, 0, -1)), with(whole, -1, -1)} {
			if got, errno := disk.Crash(d, c.keep...); !same(got, want) || errno != api.OK {
				t.Errorf("Crash keeping %d: %v, %d", c.keep, got, errno)
			}
		}
	}
	if d, errno := disk.Crash(api.Fs{Room: 7, Down: true}, 5); !same(d, api.Fs{Room: 7, Fuse: -1, Fault: -1}) || errno != api.OK {
		t.Errorf("Crash of none: %v, %d", d, errno)
	}
}

// 4.4
func TestAnswersAreNewMemory(t *testing.T) {
	given := api.Fs{Room: 1000, Fuse: -1, Fault: -1, Files: []api.File{
		{Name: strings.Clone("a"), Data: strings.Repeat("A", 40), Synced: 20},
		{Name: strings.Clone("b"), Data: strings.Repeat("B", 40), Synced: 20},
		{Name: strings.Clone("c")},
	}}
	name, data := strings.Repeat("n", 40), strings.Repeat("d", 40)
	calls := others()
	calls["Crash"] = func(d api.Fs) (api.Fs, api.Errno) { return disk.Crash(d, 5, 9) }
	calls["Create"] = func(d api.Fs) (api.Fs, api.Errno) { return disk.Create(d, name) }
	calls["Rename"] = func(d api.Fs) (api.Fs, api.Errno) { return disk.Rename(d, "b", name) }
	calls["Append to nothing"] = func(d api.Fs) (api.Fs, api.Errno) { return disk.Append(d, "c", data) }
	calls["Append"] = func(d api.Fs) (api.Fs, api.Errno) { return disk.Append(d, "b", data) }
	calls["Append nothing"] = func(d api.Fs) (api.Fs, api.Errno) { return disk.Append(d, "b") }
	for what, call := range calls {
		for _, d := range []api.Fs{given, with(given, 0, -1), with(given, -1, 0), down(given)} {
			d.Files = append(make([]api.File, 0, 9), given.Files...)
			one, _ := call(d)
			two, _ := call(d)
			if !slices.Equal(d.Files, given.Files) || !slices.Equal(d.Files[:4], append(slices.Clone(given.Files), api.File{})) {
				t.Fatalf("%s changes what was handed in: %v", what, d)
			}
			for i, s := range textsOf(one) {
				for _, other := range slices.Concat(textsOf(d), textsOf(two), textsOf(one)[:i], []string{name, data}) {
					if shares(s, other) {
						t.Errorf("%s: %q shares its memory", what, s)
					}
				}
			}
			one.Files[0].Name = "changed"
			if d.Files[0].Name != "a" || two.Files[0].Name != "a" {
				t.Errorf("%s: files share their memory", what)
			}
		}
	}
	s, _ := disk.Read(given, "b")
	again, _ := disk.Read(given, "b")
	if shares(s, given.Files[1].Data) || shares(s, again) {
		t.Error("what Read tells shares its memory")
	}
	l, _ := disk.List(given)
	again2, _ := disk.List(given)
	if shares(l[1], given.Files[1].Name) || shares(l[1], again2[1]) {
		t.Error("what List tells shares its memory")
	}
}

// 4.4: one text that is two files' is not told as one.
func TestFilesShareNoMemory(t *testing.T) {
	data := strings.Repeat("x", 40)
	d := api.Fs{Room: 100, Fuse: -1, Fault: -1, Files: []api.File{{Name: "a", Data: data}, {Name: "b", Data: data}}}
	got, errno := disk.Sync(d, "a")
	if errno != api.OK || shares(got.Files[0].Data, got.Files[1].Data) {
		t.Errorf("two files share their memory: %d", errno)
	}
}

// world is a disk, and what was done with it by rules of its own: of each file its bytes, and how many of them were synced.
type world struct {
	d      api.Fs
	data   map[string]string
	synced map[string]int
}

// step does something by chance, and sees that it is told.
func (w *world) step(t *testing.T, r *rand.Rand) {
	t.Helper()
	names := []string{"a", "b", "c", "d"}
	name, other := names[r.Intn(4)], names[r.Intn(4)]
	_, there := w.data[name]
	var errno api.Errno
	switch r.Intn(7) {
	case 0:
		w.d, errno = disk.Create(w.d, name)
		if errno == api.OK {
			w.data[name], w.synced[name] = "", 0
		}
		if there != (errno == api.ErrTwice) {
			t.Fatalf("Create(%s) of %v: %d", name, w.d, errno)
		}
		return
	case 1, 2:
		piece := strings.Repeat(string(rune('a'+r.Intn(26))), r.Intn(4))
		w.d, errno = disk.Append(w.d, name, piece, "x")
		if errno == api.OK {
			w.data[name] += piece + "x"
		}
	case 3:
		w.d, errno = disk.Sync(w.d, name)
		if errno == api.OK {
			w.synced[name] = len(w.data[name])
		}
	case 4:
		w.d, errno = disk.Rename(w.d, name, other)
		if errno == api.OK && name != other {
			w.data[other], w.synced[other] = w.data[name], w.synced[name]
			delete(w.data, name)
			delete(w.synced, name)
		}
	case 5:
		w.d, errno = disk.Delete(w.d, name)
		delete(w.data, name)
		delete(w.synced, name)
	case 6:
		n := r.Intn(5)
		w.d, errno = disk.Cut(w.d, name, n)
		if errno == api.OK {
			w.data[name], w.synced[name] = w.data[name][:n], min(n, w.synced[name])
		}
	}
	if there == (errno == api.ErrNone) {
		t.Fatalf("%s of %v: %d", name, w.d, errno)
	}
}

// 4.5, 4.6
func TestSyncedBytesAreSafe(t *testing.T) {
	r := rand.New(rand.NewSource(1))
	for range 500 {
		d, _ := disk.Make(60)
		w := &world{d, map[string]string{}, map[string]int{}}
		for range 40 {
			w.step(t, r)
			var keep []int
			for range r.Intn(5) {
				keep = append(keep, r.Intn(9)-3)
			}
			crashed, errno := disk.Crash(w.d, keep...)
			if errno != api.OK || disk.Check(w.d) != api.OK || disk.Check(crashed) != api.OK || len(crashed.Files) != len(w.data) {
				t.Fatalf("%v is crashed: %v, %d", w.d, crashed, errno)
			}
			for name, data := range w.data {
				if s, errno := disk.Read(w.d, name); s != data || errno != api.OK {
					t.Fatalf("%s is %q, not %q; %d", name, s, data, errno)
				}
				s, errno := disk.Read(crashed, name)
				if errno != api.OK || !strings.HasPrefix(data, s) || len(s) < w.synced[name] {
					t.Fatalf("%s was %q, of which %d were synced: %q, %d", name, data, w.synced[name], s, errno)
				}
			}
		}
	}
}

// 4.5, 4.6: wherever the power goes, what was synced is there, and behind it no more than a beginning of what was put.
func TestPowerGoesAnywhere(t *testing.T) {
	for fuse, w := range []struct {
		none   bool
		data   string
		synced int
	}{
		{none: true},       // in Create
		{data: "ab"},       // in the first Append
		{data: "ab"},       // in the first Sync
		{false, "abcd", 2}, // in the second Append
		{false, "abcd", 2}, // in the second Sync
		{false, "abcd", 4}, // in none
	} {
		for keep := range 5 {
			d, _ := disk.Make(60)
			d.Fuse = fuse
			d, _ = disk.Create(d, "a")
			d, _ = disk.Append(d, "a", "ab")
			d, _ = disk.Sync(d, "a")
			d, _ = disk.Append(d, "a", "cd")
			d, last := disk.Sync(d, "a")
			if (last == api.ErrPower) != (fuse < 5) || d.Down != (fuse < 5) {
				t.Errorf("power for %d: %v, %d", fuse, d, last)
			}
			d, _ = disk.Crash(d, keep)
			want := w.data[:min(len(w.data), w.synced+keep)]
			s, errno := disk.Read(d, "a")
			if s != want || (errno == api.ErrNone) != w.none || (errno == api.OK) == w.none {
				t.Errorf("power for %d, keeping %d: %q, %d, not %q", fuse, keep, s, errno, want)
			}
		}
	}
}

// P1 to P4
func TestAnythingIsAnswered(t *testing.T) {
	ahead := runtime.NumGoroutine()
	r := rand.New(rand.NewSource(2))
	calls := others()
	for range 5000 {
		d := api.Fs{Room: r.Intn(12) - 1, Fuse: r.Intn(5) - 2, Fault: r.Intn(5) - 2, Down: r.Intn(4) == 0}
		for i := range r.Intn(4) {
			name := string(rune('a' + i + r.Intn(2)))
			d.Files = append(d.Files, api.File{Name: name, Data: strings.Repeat("x", r.Intn(4)), Synced: r.Intn(4) - 1})
		}
		right := disk.Check(d)
		for name, call := range calls {
			one, errno := call(d)
			two, wrong := call(d)
			if !same(one, two) || errno != wrong || (errno == api.ErrForm) != (right == api.ErrForm) {
				t.Fatalf("%s of %v: %v, %d and %v, %d", name, d, one, errno, two, wrong)
			}
			if errno != api.ErrForm && disk.Check(one) != api.OK {
				t.Fatalf("%s of %v: %v, %d is not right", name, d, one, errno)
			}
		}
		if c, errno := disk.Crash(d, r.Intn(9)-2, r.Int()-r.Int()); errno != right || errno == api.OK && disk.Check(c) != api.OK {
			t.Fatalf("Crash of %v: %v, %d", d, c, errno)
		}
	}
	if behind := runtime.NumGoroutine(); behind > ahead { // fewer, if that of an earlier test was just ending
		t.Errorf("%d goroutines ahead, %d behind", ahead, behind)
	}
}
