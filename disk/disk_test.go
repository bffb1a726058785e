package disk_test

import (
	"fmt"
	"math"
	"slices"
	"strings"
	"sync"
	"testing"
	"unsafe"

	"palaver/api"
	"palaver/disk"
)

// do does a call that is written as its words: "create a", "append a xy", "sync a", "rename a b",
// "remove a"; `_` is the empty text.
func do(d *disk.Disk, say string) api.Errno {
	w := append(strings.Split(strings.ReplaceAll(say, "_", ""), " "), "", "")
	switch w[0] {
	case "create":
		return d.Create(w[1])
	case "append":
		return d.Append(w[1], []byte(w[2]))
	case "sync":
		return d.Sync(w[1])
	case "rename":
		return d.Rename(w[1], w[2])
	case "remove":
		return d.Remove(w[1])
	}
	panic("no call: " + say)
}

// goes fails the test if a call does not answer so.
func goes(t testing.TB, d *disk.Disk, say string, want api.Errno) {
	t.Helper()
	calls := d.Calls()
	if got := do(d, say); got != want {
		t.Errorf("%s: %d; should be %d", say, got, want)
	}
	if got := d.Calls(); got != calls+1 {
		t.Errorf("%s: %d calls behind %d", say, got, calls)
	}
}

// made is a disk behind calls that answer OK.
func made(t testing.TB, room int, say ...string) *disk.Disk {
	t.Helper()
	d := disk.New(room)
	for _, s := range say {
		goes(t, d, s, api.OK)
	}
	return d
}

// arms arms a disk.
func arms(t testing.TB, d *disk.Disk, kind api.Errno, after int) {
	t.Helper()
	if err := d.Arm(kind, after); err != api.OK {
		t.Errorf("Arm(%d, %d): %d", kind, after, err)
	}
}

// holds fails the test if a disk's files are not these: "a=xy b=", by names.
func holds(t testing.TB, d *disk.Disk, want string) {
	t.Helper()
	if got := tells(t, d); got != want {
		t.Errorf("it holds %q; should be %q", got, want)
	}
}

// tells is what a disk holds.
func tells(t testing.TB, d *disk.Disk) string {
	t.Helper()
	calls, used := d.Calls(), 0
	var all []string
	for _, name := range d.List() {
		b, err := d.Read(name)
		if err != api.OK {
			t.Errorf("Read(%q): %d", name, err)
		}
		used += len(b)
		all = append(all, fmt.Sprintf("%s=%s", name, b))
	}
	if got := d.Used(); got != used {
		t.Errorf("Used: %d; should be %d", got, used)
	}
	if got := d.Calls(); got != calls {
		t.Errorf("to ask is a call: %d; was %d", got, calls)
	}
	return strings.Join(all, " ")
}

// Names that may be, and that may not.
var (
	rightNames = []string{"a", "A", ".", "/", " ", "\x00", "\xff", "é", "wal-00000001", strings.Repeat("a", 31), strings.Repeat("a", 32), strings.Repeat("é", 16), strings.Repeat("\xff", 32)}
	wrongNames = []string{"", strings.Repeat("a", 33), strings.Repeat("é", 16) + "a", strings.Repeat("é", 17), strings.Repeat("\x00", 33), strings.Repeat("a", 1<<20)}
)

// P17.1, P17.3: the chapter's example.
func TestExample(t *testing.T) {
	d := made(t, 10, "create a", "append a xy")
	holds(t, d, "a=xy")
	d.Crash([]int{1})
	holds(t, d, "a=x")
}

// P17.1: a new disk has nothing.
func TestNew(t *testing.T) {
	d := disk.New(10)
	holds(t, d, "")
	if d.Used() != 0 || d.Calls() != 0 || len(d.List()) != 0 {
		t.Error(d.Used(), d.Calls(), d.List())
	}
	d.Crash(nil)
	d.Crash([]int{1, 2})
	holds(t, d, "")
	if b, err := d.Read("a"); len(b) != 0 || err != api.ErrNone {
		t.Error(b, err)
	}
}

// P17.1: the five calls, one behind the other.
func TestCalls(t *testing.T) {
	d := disk.New(100)
	for _, x := range []struct {
		say   string
		err   api.Errno
		holds string
	}{
		{"append a x", api.ErrNone, ""},
		{"sync a", api.ErrNone, ""},
		{"rename a b", api.ErrNone, ""},
		{"rename a a", api.ErrNone, ""},
		{"remove a", api.ErrNone, ""},
		{"create a", api.OK, "a="},
		{"append a xy", api.OK, "a=xy"},
		{"append a z", api.OK, "a=xyz"},
		{"append a _", api.OK, "a=xyz"},
		{"sync a", api.OK, "a=xyz"},
		{"sync a", api.OK, "a=xyz"},
		{"append a 12", api.OK, "a=xyz12"},
		{"create b", api.OK, "a=xyz12 b="},
		{"append b q", api.OK, "a=xyz12 b=q"},
		{"append B q", api.ErrNone, "a=xyz12 b=q"},
		{"rename a c", api.OK, "b=q c=xyz12"}, // to a new name
		{"append a q", api.ErrNone, "b=q c=xyz12"},
		{"sync a", api.ErrNone, "b=q c=xyz12"},
		{"append c 3", api.OK, "b=q c=xyz123"},
		{"rename c c", api.OK, "b=q c=xyz123"}, // to its own
		{"append c 4", api.OK, "b=q c=xyz1234"},
		{"rename b c", api.OK, "c=q"}, // to another one's
		{"rename b c", api.ErrNone, "c=q"},
		{"create d", api.OK, "c=q d="},
		{"append d 5", api.OK, "c=q d=5"},
		{"create c", api.OK, "c= d=5"}, // where there is one
		{"create c", api.OK, "c= d=5"},
		{"append c r", api.OK, "c=r d=5"},
		{"remove d", api.OK, "c=r"},
		{"remove d", api.ErrNone, "c=r"},
		{"append d 5", api.ErrNone, "c=r"},
		{"create d", api.OK, "c=r d="},
		{"remove c", api.OK, "d="},
		{"remove d", api.OK, ""},
	} {
		goes(t, d, x.say, x.err)
		holds(t, d, x.holds)
	}
	if got := d.Calls(); got != 34 {
		t.Errorf("%d calls", got)
	}
}

// P17.1: names at the edges, in each call.
func TestNames(t *testing.T) {
	for _, name := range rightNames {
		d := disk.New(10)
		if b, err := d.Read(name); len(b) > 0 || err != api.ErrNone {
			t.Errorf("Read(%q): %q, %d", name, b, err)
		}
		for i, got := range []api.Errno{d.Create(name), d.Append(name, []byte("x")), d.Sync(name), d.Rename(name, name), d.Rename(name, "q"), d.Rename("q", name), d.Append(name, []byte("y"))} {
			if got != api.OK {
				t.Errorf("%q: call %d: %d", name, i, got)
			}
		}
		holds(t, d, name+"=xy")
		if err := d.Remove(name); err != api.OK {
			t.Errorf("Remove(%q): %d", name, err)
		}
		holds(t, d, "")
	}
	for _, name := range wrongNames {
		// Be there room or none, files or none, a file that is asked for or none.
		for _, d := range []*disk.Disk{disk.New(10), disk.New(0), made(t, 2, "create a", "append a xy")} {
			was, calls := tells(t, d), d.Calls()
			for i, got := range []api.Errno{
				d.Create(name), d.Append(name, nil), d.Append(name, []byte("x")), d.Append(name, make([]byte, 20)), d.Sync(name), d.Remove(name),
				d.Rename(name, "a"), d.Rename("a", name), d.Rename("q", name), d.Rename(name, "q"), d.Rename(name, name), d.Rename(name, ""), d.Rename("", name),
			} {
				if got != api.ErrArg {
					t.Errorf("%.40q: call %d: %d", name, i, got)
				}
			}
			holds(t, d, was)
			if got := d.Calls(); got != calls+13 {
				t.Errorf("%d calls behind %d", got, calls)
			}
			if b, err := d.Read(name); len(b) > 0 || err != api.ErrNone {
				t.Errorf("Read(%.40q): %q, %d", name, b, err)
			}
		}
	}
}

// P17.1: names stand by their bytes, in whichever order they came.
func TestList(t *testing.T) {
	want := []string{"\x00", "\x00\x00", " ", "A", "B", "a", "a\x00", "a ", "a0", "aa", "ab", "b", "wal-00000001", "wal-00000010", "wal-00000009~", "wal-tmp", "z", "~", "\x7f", "é", "日", "\U0010ffff", "\xfe", "\xff", "\xff\x00"}
	slices.Sort(want)
	if want[0] != "\x00" || want[len(want)-1] != "\xff\x00" {
		t.Fatal(want)
	}
	for step := 1; step <= 25; step += 2 {
		if step%5 == 0 {
			continue // not all of 25 would come
		}
		d := disk.New(100)
		for i := range want {
			if err := d.Create(want[i*step%len(want)]); err != api.OK {
				t.Fatal(err)
			}
		}
		if got := d.List(); !slices.Equal(got, want) {
			t.Errorf("%q; should be %q", got, want)
		}
	}
}

// P17.1: bytes may be any.
func TestBytes(t *testing.T) {
	d := disk.New(1000)
	d.Create("a")
	var all []byte
	for i := range 256 {
		all = append(all, byte(i))
	}
	d.Append("a", all[:100])
	d.Sync("a")
	d.Append("a", all[100:])
	if b, err := d.Read("a"); !slices.Equal(b, all) || err != api.OK {
		t.Error(b, err)
	}
}

// P17.1: the room that is asked for, cut to from 0 to MaxFile.
func TestRoom(t *testing.T) {
	great := make([]byte, api.MaxFile+1)
	for room, want := range map[int]int{
		math.MinInt: 0, -api.MaxFile: 0, -1: 0, 0: 0, 1: 1, 2: 2, 1000: 1000, api.MaxFile - 1: api.MaxFile - 1, api.MaxFile: api.MaxFile,
		api.MaxFile + 1: api.MaxFile, 1 << 32: api.MaxFile, math.MaxInt: api.MaxFile,
	} {
		d := made(t, room, "create a", "create b", "append a _")
		if err := d.Append("a", great[:want+1]); err != api.ErrSpace {
			t.Errorf("of %d: one too many: %d", room, err)
		}
		if d.Used() != 0 {
			t.Errorf("of %d: %d used", room, d.Used())
		}
		if err := d.Append("a", great[:want]); err != api.OK {
			t.Errorf("of %d: all: %d", room, err)
		}
		if d.Used() != want {
			t.Errorf("of %d: %d used", room, d.Used())
		}
		// Not one more, in whichever file; none at all has room always.
		goes(t, d, "append a x", api.ErrSpace)
		goes(t, d, "append b x", api.ErrSpace)
		goes(t, d, "append a _", api.OK)
		goes(t, d, "append b _", api.OK)
		goes(t, d, "append c x", api.ErrNone)
		if b, err := d.Read("a"); len(b) != want || err != api.OK {
			t.Errorf("of %d: Read: %d bytes, %d", room, len(b), err)
		}
		if b, err := d.Read("b"); len(b) != 0 || err != api.OK {
			t.Errorf("of %d: Read: %d bytes, %d", room, len(b), err)
		}
	}
}

// P17.1: room is what all files' bytes leave together, pending and certain ones; what goes leaves its room.
func TestRoomAgain(t *testing.T) {
	for _, x := range []struct {
		say  string
		left int
	}{
		{"sync a", 0}, {"sync b", 0}, {"rename a c", 0}, {"rename a a", 0}, {"create c", 0},
		{"create a", 3}, {"create b", 4}, {"remove a", 3}, {"remove b", 4}, {"rename a b", 4}, {"rename b a", 3},
	} {
		for _, before := range [][]string{nil, {"sync a"}, {"sync b"}, {"sync a", "sync b"}} {
			d := made(t, 7, "create a", "create b", "append b 12", "append a xyz", "append b 34", "create q")
			for _, s := range append(before, x.say) {
				goes(t, d, s, api.OK)
			}
			if got := d.Used(); got != 7-x.left {
				t.Errorf("%s: %d used", x.say, got)
			}
			for n := x.left + 1; n < 10; n++ {
				goes(t, d, "append q "+strings.Repeat("q", n), api.ErrSpace)
			}
			goes(t, d, "append q "+strings.Repeat("q", x.left), api.OK)
			goes(t, d, "append q q", api.ErrSpace)
		}
	}
}

// P17.1: as many files as there may be, and no more.
func TestFull(t *testing.T) {
	d := disk.New(100)
	name := func(i int) string { return fmt.Sprintf("f%02d", i) }
	for i := range api.MaxFiles {
		goes(t, d, "create "+name(i), api.OK)
	}
	was := tells(t, d)
	for i := api.MaxFiles; i < api.MaxFiles+3; i++ {
		goes(t, d, "create "+name(i), api.ErrFull)
		goes(t, d, "append "+name(i)+" x", api.ErrNone)
	}
	for _, name := range wrongNames {
		if err := d.Create(name); err != api.ErrArg {
			t.Errorf("Create(%.40q): %d", name, err)
		}
	}
	holds(t, d, was)
	// Those that are there may be made anew, and have other names.
	goes(t, d, "append f07 x", api.OK)
	goes(t, d, "create f07", api.OK)
	holds(t, d, was)
	goes(t, d, "rename f07 x07", api.OK)
	goes(t, d, "create f07", api.ErrFull)
	goes(t, d, "rename x07 f07", api.OK)
	goes(t, d, "rename f07 f07", api.OK)
	goes(t, d, "create x07", api.ErrFull)
	d.Crash(nil)
	goes(t, d, "create x07", api.ErrFull)
	holds(t, d, was)
	// One goes, one may come.
	goes(t, d, "remove f63", api.OK)
	goes(t, d, "create a", api.OK)
	goes(t, d, "create b", api.ErrFull)
	goes(t, d, "rename f00 f01", api.OK)
	goes(t, d, "create b", api.OK)
	goes(t, d, "create c", api.ErrFull)
	if got := len(d.List()); got != api.MaxFiles {
		t.Errorf("%d files", got)
	}
}

// P17.1: calls are counted, whatever they answer, and nothing else is.
func TestCount(t *testing.T) {
	d := disk.New(1)
	count := func(want int) {
		t.Helper()
		if got := d.Calls(); got != want {
			t.Errorf("%d calls; should be %d", got, want)
		}
	}
	for i, say := range []string{"create _", "create a", "append a x", "append a x", "append b x", "sync a", "sync b", "rename a b", "rename a b", "rename _ b", "remove a", "remove b"} {
		do(d, say)
		count(i + 1)
	}
	d.Read("a")
	d.List()
	d.Used()
	d.Calls()
	d.Arm(api.ErrPower, 1)
	d.Arm(api.ErrPower, -1)
	d.Arm(api.OK, 1)
	count(12)
	goes(t, d, "create a", api.OK)
	goes(t, d, "create b", api.ErrPower)
	for i, say := range []string{"create _", "create a", "append a x", "append b x", "sync a", "rename a b", "remove a"} {
		goes(t, d, say, api.ErrPower)
		count(15 + i)
	}
	d.Crash(nil)
	d.Crash([]int{1})
	count(21)
	arms(t, d, api.ErrSpace, 0)
	goes(t, d, "sync a", api.ErrSpace)
	count(22)
}

// P17.1: which error comes first. Each thing that is wrong is there or not, in each call.
func TestErrors(t *testing.T) {
	long := strings.Repeat("n", 33)
	for wrong := range 1 << 5 {
		dark, armed, name, none, room := wrong&1 > 0, wrong&2 > 0, wrong&4 > 0, wrong&8 > 0, wrong&16 > 0
		for _, kind := range []string{"create", "append", "sync", "rename", "rename to", "remove"} {
			d := made(t, 4, "create f", "append f 1234", "create g")
			for i := range api.MaxFiles - 2 {
				goes(t, d, fmt.Sprintf("create %02d", i), api.OK)
			}
			// There is room for another file, and for bytes, if room is not what is wrong.
			if !room {
				goes(t, d, "create f", api.OK)
				goes(t, d, "remove 00", api.OK)
			}
			if dark {
				arms(t, d, api.ErrPower, 0)
				goes(t, d, "sync f", api.ErrPower)
			}
			if armed {
				arms(t, d, api.ErrSpace, 0)
			}
			who := "g"
			if none {
				who = "nobody"
			}
			if name {
				who = long
			}
			var want api.Errno
			switch {
			case dark:
				want = api.ErrPower
			case armed:
				want = api.ErrSpace
			case name:
				want = api.ErrArg
			case none && kind != "create":
				want = api.ErrNone
			case none && room:
				want = api.ErrFull // Create alone is left
			case room && kind == "append":
				want = api.ErrSpace
			}
			was := tells(t, d)
			switch kind {
			case "append":
				goes(t, d, "append "+who+" x", want)
			case "rename":
				goes(t, d, "rename "+who+" h", want)
			case "rename to":
				if name && none {
					goes(t, d, "rename nobody "+long, want)
				} else if name {
					goes(t, d, "rename g "+long, want)
				} else {
					goes(t, d, "rename "+who+" f", want)
				}
			default:
				goes(t, d, kind+" "+who, want)
			}
			if want != api.OK {
				holds(t, d, was)
			}
		}
	}
}

// P17.2: what may be armed, and what may not: then what was armed stays.
func TestArm(t *testing.T) {
	kinds := []api.Errno{math.MinInt, -18, -1, math.MaxInt, 1 << 32, 1<<32 + 18, 18 + 256, 19 + 256}
	for k := range 40 {
		kinds = append(kinds, api.Errno(k))
	}
	for _, kind := range kinds {
		for _, after := range []int{math.MinInt, -1 << 40, -2, -1, 0, 1, 2, 1 << 40, math.MaxInt} {
			right := (kind == api.ErrSpace || kind == api.ErrPower) && after >= 0
			for _, before := range []api.Errno{api.OK, api.ErrSpace, api.ErrPower} {
				d := made(t, 10, "create a")
				if before != api.OK {
					arms(t, d, before, 1)
				}
				want := api.OK
				if !right {
					want = api.ErrArg
				}
				if got := d.Arm(kind, after); got != want {
					t.Errorf("Arm(%d, %d): %d", kind, after, got)
				}
				holds(t, d, "a=")
				first, second := api.OK, before
				if right {
					second = api.OK
					switch after {
					case 0:
						first = kind
						if kind == api.ErrPower {
							second = kind
						}
					case 1:
						second = kind
					}
				}
				goes(t, d, "sync a", first)
				goes(t, d, "sync a", second)
			}
		}
	}
}

// P17.2: the call behind so many more fails, and of ErrSpace just that one.
func TestAfter(t *testing.T) {
	for after := range 20 {
		d := made(t, 100, "create a")
		arms(t, d, api.ErrSpace, after)
		for i := range 30 {
			want := api.OK
			if i == after {
				want = api.ErrSpace
			}
			goes(t, d, "append a x", want)
		}
		d = made(t, 100, "create a")
		arms(t, d, api.ErrPower, after)
		for i := range 30 {
			want := api.OK
			if i >= after {
				want = api.ErrPower
			}
			goes(t, d, "append a x", want)
		}
		holds(t, d, "a="+strings.Repeat("x", after))
	}
	for _, after := range []int{1000, 1 << 20, 1 << 40, math.MaxInt - 1, math.MaxInt} {
		d := made(t, 10, "create a")
		arms(t, d, api.ErrPower, after)
		for range 1000 {
			goes(t, d, "sync a", api.OK)
		}
		if after == 1000 {
			goes(t, d, "sync a", api.ErrPower)
		}
	}
}

// P17.2: it is calls that come ahead of the one that fails, each, whatever it answers; and nothing else.
func TestAhead(t *testing.T) {
	for _, say := range []string{"create b", "append a x", "sync a", "rename a b", "remove a", "create _", "append _ x", "sync _", "rename _ a", "rename a _", "remove _", "append c x", "append a 12345678901", "sync c", "rename c a", "remove c"} {
		for _, kind := range []api.Errno{api.ErrSpace, api.ErrPower} {
			d := made(t, 10, "create a")
			arms(t, d, kind, 1)
			if got := do(d, say); got == kind && say != "append a 12345678901" || got == api.ErrPower {
				t.Errorf("%s: %d", say, got)
			}
			goes(t, d, "create a", kind)
		}
	}
	d := made(t, 10, "create a")
	arms(t, d, api.ErrPower, 1)
	for range 5 {
		d.Read("a")
		d.Read("b")
		d.List()
		d.Used()
		d.Calls()
		d.Arm(api.OK, 0)
		d.Arm(api.ErrPower, -1)
	}
	goes(t, d, "sync a", api.OK)
	goes(t, d, "sync a", api.ErrPower)
}

// P17.2: what is armed comes in the place of what was.
func TestArmAnew(t *testing.T) {
	d := made(t, 10, "create a")
	arms(t, d, api.ErrPower, 0)
	arms(t, d, api.ErrSpace, 1)
	goes(t, d, "sync a", api.OK)
	arms(t, d, api.ErrSpace, 2)
	goes(t, d, "sync a", api.OK)
	goes(t, d, "sync a", api.OK)
	goes(t, d, "sync a", api.ErrSpace)
	for range 5 {
		goes(t, d, "sync a", api.OK)
	}
	arms(t, d, api.ErrSpace, 0)
	arms(t, d, api.ErrPower, 0)
	goes(t, d, "sync a", api.ErrPower)
}

// P17.2: a call that fails does nothing, but an Append with the first half of its bytes.
func TestFails(t *testing.T) {
	for _, kind := range []api.Errno{api.ErrSpace, api.ErrPower} {
		for _, x := range []struct{ say, holds string }{
			{"create b", "a=xy"}, {"create a", "a=xy"}, {"create _", "a=xy"},
			{"sync a", "a=xy"}, {"sync b", "a=xy"}, {"rename a b", "a=xy"}, {"rename b a", "a=xy"}, {"rename a a", "a=xy"}, {"rename _ a", "a=xy"},
			{"remove a", "a=xy"}, {"remove b", "a=xy"},
			{"append b 1234", "a=xy"}, {"append _ 1234", "a=xy"}, {"append " + strings.Repeat("a", 33) + " 1234", "a=xy"},
			{"append a _", "a=xy"}, {"append a 1", "a=xy"},
			{"append a 12", "a=xy1"}, {"append a 123", "a=xy1"}, {"append a 1234", "a=xy12"}, {"append a 12345", "a=xy12"}, {"append a 123456", "a=xy123"},
			// There is room for eight more.
			{"append a 1234567890123456", "a=xy12345678"}, {"append a 12345678901234567", "a=xy12345678"},
			{"append a 123456789012345678", "a=xy"}, {"append a 1234567890123456789", "a=xy"},
		} {
			d := made(t, 10, "create a", "append a xy")
			arms(t, d, kind, 0)
			goes(t, d, x.say, kind)
			holds(t, d, x.holds)
			// The half is pending, as are the bytes ahead of it: Sync did nothing either.
			d.Crash(nil)
			holds(t, d, "a=")
			d = made(t, 10, "create a", "append a x", "sync a", "append a y")
			arms(t, d, kind, 0)
			goes(t, d, x.say, kind)
			holds(t, d, x.holds)
			d.Crash([]int{2})
			half := strings.TrimPrefix(x.holds, "a=xy")
			holds(t, d, "a=xy"+half[:min(1, len(half))])
		}
	}
}

// P17.2: where the disk is full, the half has no room; an odd byte more would have had one.
func TestHalfRoom(t *testing.T) {
	for room := range 12 {
		for n := range 30 {
			for _, kind := range []api.Errno{api.ErrSpace, api.ErrPower} {
				d := made(t, room, "create a", "create b")
				used := min(room, 3)
				goes(t, d, "append b "+strings.Repeat("b", used), api.OK)
				arms(t, d, kind, 0)
				b := []byte("abcdefghijklmnopqrstuvwxyzabcdefghij")[:n]
				if err := d.Append("a", b); err != kind {
					t.Errorf("Append of %d: %d", n, err)
				}
				want := string(b[:n/2])
				if n/2 > room-used {
					want = ""
				}
				holds(t, d, "a="+want+" b="+strings.Repeat("b", used))
			}
		}
	}
}

// P17.2: behind ErrSpace it goes on as if nothing had been armed.
func TestSpaceOnce(t *testing.T) {
	d := made(t, 10, "create a")
	arms(t, d, api.ErrSpace, 0)
	goes(t, d, "append a 1234", api.ErrSpace)
	for _, say := range []string{"append a 3", "sync a", "create b", "rename a c", "remove b"} {
		goes(t, d, say, api.OK)
	}
	holds(t, d, "c=123")
	d.Crash(nil)
	holds(t, d, "c=123")
}

// P17.2: the power is gone up to Crash, whatever is armed till then; what is no call goes on.
func TestDark(t *testing.T) {
	calls := []string{"create b", "create a", "create _", "append a 1234", "append a _", "append b 12", "append _ 12", "sync a", "sync b", "rename a b", "rename _ b", "remove a", "remove b"}
	for _, first := range calls {
		for _, again := range []api.Errno{api.OK, api.ErrSpace, api.ErrPower} {
			d := made(t, 10, "create a", "append a x", "sync a", "append a y")
			arms(t, d, api.ErrPower, 0)
			goes(t, d, first, api.ErrPower)
			want := "a=xy"
			if first == "append a 1234" {
				want = "a=xy12"
			}
			for range 2 {
				for i, say := range calls {
					if again != api.OK {
						arms(t, d, again, i%3)
					}
					goes(t, d, say, api.ErrPower)
					holds(t, d, want)
				}
			}
			if err := d.Arm(api.ErrDown, 1); err != api.ErrArg {
				t.Errorf("Arm: %d", err)
			}
			if b, err := d.Read("b"); len(b) > 0 || err != api.ErrNone {
				t.Errorf("Read: %q, %d", b, err)
			}
			if again != api.OK {
				arms(t, d, again, 0)
			}
			d.Crash([]int{9})
			holds(t, d, want)
			// The power is there, and nothing is armed.
			for _, say := range []string{"append a 1", "sync a", "create b", "rename b c", "remove c"} {
				goes(t, d, say, api.OK)
			}
			holds(t, d, want+"1")
		}
	}
}

// P17.3: picks by hand. Files have two certain and three pending bytes.
func TestCrash(t *testing.T) {
	for _, x := range []struct {
		picks []int
		holds string
	}{
		{nil, "a=01 b=56 c=ab"},
		{[]int{}, "a=01 b=56 c=ab"},
		{[]int{0}, "a=01 b=56 c=ab"},
		{[]int{1}, "a=012 b=567 c=abc"},
		{[]int{2}, "a=0123 b=5678 c=abcd"},
		{[]int{3}, "a=01234 b=56789 c=abcde"},
		{[]int{4}, "a=01234 b=56789 c=abcde"},
		{[]int{math.MaxInt}, "a=01234 b=56789 c=abcde"},
		{[]int{-1}, "a=01 b=56 c=ab"},
		{[]int{math.MinInt}, "a=01 b=56 c=ab"},
		{[]int{1, 2}, "a=012 b=5678 c=abc"},
		{[]int{0, 3}, "a=01 b=56789 c=ab"},
		{[]int{1, 2, 3}, "a=012 b=5678 c=abcde"},
		{[]int{3, 2, 1}, "a=01234 b=5678 c=abc"},
		{[]int{-5, 1, 1 << 40}, "a=01 b=567 c=abcde"},
		{[]int{1, 2, 3, 4}, "a=012 b=5678 c=abcde"},
		{[]int{0, 0, 0, 4, 4, 4, 4}, "a=01 b=56 c=ab"},
	} {
		d := made(t, 15, "create c", "create a", "create b", "append c ab", "append a 01", "append b 56", "sync a", "sync b", "sync c", "append b 78", "append c c", "append a 234", "append b 9", "append c de")
		calls, picks := d.Calls(), slices.Clone(x.picks)
		d.Crash(x.picks)
		holds(t, d, x.holds)
		if got := d.Calls(); got != calls {
			t.Errorf("Crash is a call: %d", got)
		}
		if !slices.Equal(x.picks, picks) {
			t.Errorf("picks turned: %d; were %d", x.picks, picks)
		}
		// What was kept is certain; what goes leaves its room.
		for _, picks := range [][]int{nil, {0}, {-1}, {2}} {
			d.Crash(picks)
			holds(t, d, x.holds)
		}
		left := 15 - d.Used()
		goes(t, d, "append b "+strings.Repeat("x", left+1), api.ErrSpace)
		goes(t, d, "append b "+strings.Repeat("x", left), api.OK)
		d.Crash([]int{0})
		holds(t, d, x.holds)
	}
}

// P17.3: each file has its place by names, be anything pending there or not.
func TestCrashPlaces(t *testing.T) {
	for _, x := range []struct {
		say   []string
		picks []int
		holds string
	}{
		{[]string{"sync a"}, []int{0, 1}, "a=abc b=a c="},
		{[]string{"sync a", "sync b"}, []int{0, 1, 2}, "a=abc b=abc c=ab"},
		{[]string{"create a"}, []int{3, 1, 2}, "a= b=a c=ab"},
		{[]string{"remove a"}, []int{3, 1, 2}, "b=abc c=a"},
		{[]string{"rename a d"}, []int{3, 1, 2}, "b=abc c=a d=ab"},
		{[]string{"rename b d"}, []int{3, 1, 2}, "a=abc c=a d=ab"},
		{[]string{"rename c B"}, []int{3, 1, 2}, "B=abc a=a b=ab"},
		{[]string{"rename c a"}, []int{1, 2}, "a=a b=ab"},
		{[]string{"create 0"}, []int{3, 1, 2}, "0= a=a b=ab c=abc"},
		{[]string{"rename a q", "sync q", "rename q a"}, []int{0, 1, 2}, "a=abc b=a c=ab"},
		{[]string{"sync a", "rename a b", "append b d"}, []int{0, 1}, "b=abc c=a"},
		{[]string{"sync a", "rename a b", "append b d"}, []int{1, 2}, "b=abcd c=ab"},
		{[]string{"sync a", "create a", "append a z"}, []int{0, 1}, "a= b=a c="},
	} {
		d := made(t, 100, "create a", "create b", "create c", "append a abc", "append b abc", "append c abc")
		for _, s := range x.say {
			goes(t, d, s, api.OK)
		}
		d.Crash(x.picks)
		holds(t, d, x.holds)
	}
}

// P17.3: as many files as there may be, all picks.
func TestCrashMany(t *testing.T) {
	for picks := 1; picks <= api.MaxFiles+2; picks++ {
		d := disk.New(10000)
		for i := range api.MaxFiles {
			name := fmt.Sprintf("%02d", api.MaxFiles-1-i)
			d.Create(name)
			d.Append(name, []byte("012345678901234567890123456789012345678901234567890123456789012345678901234567890123456789"))
		}
		p := make([]int, picks)
		for i := range p {
			p[i] = 5 + i
		}
		d.Crash(p)
		for i := range api.MaxFiles {
			if b, err := d.Read(fmt.Sprintf("%02d", i)); len(b) != 5+i%picks || err != api.OK {
				t.Errorf("%d picks: file %d: %d bytes, %d", picks, i, len(b), err)
			}
		}
	}
}

// P17.3: a Crash takes what is armed.
func TestCrashDisarms(t *testing.T) {
	for _, kind := range []api.Errno{api.ErrSpace, api.ErrPower} {
		for after := range 4 {
			for ahead := range after + 1 {
				d := made(t, 10, "create a")
				arms(t, d, kind, after)
				for range ahead {
					goes(t, d, "sync a", api.OK)
				}
				d.Crash(nil)
				for range 6 {
					goes(t, d, "sync a", api.OK)
				}
				// It may be armed again.
				arms(t, d, kind, 1)
				goes(t, d, "sync a", api.OK)
				goes(t, d, "sync a", kind)
			}
		}
	}
}

// P17.4: of a file that is written bit by bit, synced now and then, what was synced is there behind a
// crash at each call, and behind that comes a beginning of what was being written.
func TestSynced(t *testing.T) {
	say := []string{"create a", "append a 01", "sync a", "append a 23", "append a 4", "create t", "append t xyz", "sync a", "append a 567", "sync t", "rename t b", "append a 8", "append b w", "sync b", "sync a", "remove b", "append a 9"}
	for _, kind := range []api.Errno{api.ErrSpace, api.ErrPower} {
		for after := range len(say) + 1 {
			for pick := range 5 {
				d := disk.New(100)
				arms(t, d, kind, after)
				synced, written, b := "", "", false
				for i, s := range say {
					err := do(d, s)
					if (err == api.OK) != (i != after) {
						t.Errorf("call %d: %d", i, err)
					}
					if rest, ok := strings.CutPrefix(s, "append a "); ok {
						written += rest
					}
					if err != api.OK {
						break // whose call failed is not asked any more
					}
					if s == "sync a" {
						synced = written
					}
					b = (b || s == "rename t b") && s != "remove b"
				}
				for range 2 {
					d.Crash([]int{pick})
					got, err := d.Read("a")
					if after == 0 {
						if err != api.ErrNone {
							t.Errorf("Read: %q, %d", got, err)
						}
						continue
					}
					if !strings.HasPrefix(string(got), synced) || !strings.HasPrefix(written, string(got)) {
						t.Errorf("behind call %d: %q, of %q, synced %q", after, got, written, synced)
					}
					if got, err := d.Read("b"); b != (err == api.OK) || b && !strings.HasPrefix(string(got), "xyz") {
						t.Errorf("behind call %d: %q, %d", after, got, err)
					}
				}
			}
		}
	}
}

// spoil turns all of a list, its spare room too.
func spoil(b []byte) {
	b = b[:cap(b)]
	for i := range b {
		b[i] = '!'
	}
}

// R3: what is handed in is neither kept nor turned, its spare room neither.
func TestHandedIn(t *testing.T) {
	for _, armed := range []bool{false, true} {
		for _, n := range []int{1, 5, 64, 1000} {
			d := made(t, 10000, "create a", "create b")
			b := append(make([]byte, 0, 3*n), strings.Repeat("x", n)...)
			was := slices.Clone(b[:cap(b)])
			want := strings.Repeat("x", n)
			if armed {
				arms(t, d, api.ErrSpace, 0)
				want = want[:n/2]
			}
			d.Append("a", b)
			d.Append("b", []byte("y"))
			d.Append("a", []byte("y"))
			if !slices.Equal(b[:cap(b)], was) {
				t.Errorf("turned: %q", b[:cap(b)])
			}
			spoil(b)
			holds(t, d, "a="+want+"y b=y")
			b = []byte(strings.Repeat("z", n))
			d.Append("b", b)
			d.Sync("b")
			spoil(b)
			holds(t, d, "a="+want+"y b=y"+strings.Repeat("z", n))
		}
	}
}

// R3: what is read is new memory, and stays as it was.
func TestAnswers(t *testing.T) {
	for _, say := range [][]string{{"append a 123"}, {"append a 123", "sync a"}, {"append a 12", "sync a", "append a 3"}, {"append a 1", "append a 2", "append a 3"}} {
		d := made(t, 1000, append([]string{"create a"}, say...)...)
		first, _ := d.Read("a")
		second, _ := d.Read("a")
		spoil(first)
		if string(second) != "123" {
			t.Errorf("two answers share: %q", second)
		}
		holds(t, d, "a=123")
		third, _ := d.Read("a")
		for _, s := range []string{"append a 4", "sync a", "append a 5", "create a", "append a 678"} {
			goes(t, d, s, api.OK)
			if string(third) != "123" || string(second) != "123" {
				t.Errorf("turned by %s: %q, %q", s, second, third)
			}
		}
		fourth, _ := d.Read("a")
		d.Crash([]int{1})
		goes(t, d, "append a z", api.OK)
		if string(fourth) != "678" {
			t.Errorf("turned by a crash: %q", fourth)
		}
		holds(t, d, "a=6z")
	}
	d := made(t, 10, "create a", "create b", "create c")
	first, second := d.List(), d.List()
	for i := range first[:cap(first)] {
		first[:cap(first)][i] = "q"
	}
	goes(t, d, "remove b", api.OK)
	if !slices.Equal(second, []string{"a", "b", "c"}) {
		t.Errorf("two lists share: %q", second)
	}
	holds(t, d, "a= c=")
}

// R3: a file that lost pending bytes, or has another name, shares none with another one.
func TestApart(t *testing.T) {
	d := made(t, 1000, "create a", "append a 123456", "sync a", "append a 789")
	d.Crash([]int{1})
	goes(t, d, "rename a b", api.OK)
	goes(t, d, "create a", api.OK)
	goes(t, d, "append a xyz", api.OK)
	goes(t, d, "append b q", api.OK)
	holds(t, d, "a=xyz b=1234567q")
	goes(t, d, "append a xyz", api.OK)
	d.Crash(nil)
	holds(t, d, "a= b=1234567")
}

// R3: names too are neither kept nor answered but in memory of their own.
func TestNamesApart(t *testing.T) {
	const was = "a-name-of-some-length"
	under := []byte(was)
	name := unsafe.String(&under[0], len(under))
	back := func() { copy(under, was) }
	d := disk.New(100)
	for i, call := range []func() api.Errno{
		func() api.Errno { return d.Create(name) },
		func() api.Errno { return d.Append(name, []byte("x")) },
		func() api.Errno { return d.Sync(name) },
		func() api.Errno { return d.Rename(name, name) },
		func() api.Errno { return d.Append(name, []byte("y")) },
		func() api.Errno { return d.Create(name) },
		func() api.Errno { d.Read(name); return d.Rename(name, "q") },
		func() api.Errno { return d.Rename("q", name) },
	} {
		if err := call(); err != api.OK {
			t.Errorf("call %d: %d", i, err)
		}
		spoil(under)
		if i != 6 {
			if got := d.List(); !slices.Equal(got, []string{was}) {
				t.Errorf("call %d: %q", i, got)
			}
			if _, err := d.Read(was); err != api.OK {
				t.Errorf("call %d: Read: %d", i, err)
			}
		}
		back()
	}
	at := map[*byte]bool{}
	for range 4 {
		at[unsafe.StringData(d.List()[0])] = true
	}
	if at[&under[0]] || len(at) != 4 {
		t.Error("shared:", len(at))
	}
}

// R4: two disks have nothing in common.
func TestTwo(t *testing.T) {
	one, two := made(t, 5, "create a"), made(t, 6, "create b", "append b xy")
	arms(t, one, api.ErrPower, 0)
	goes(t, one, "sync a", api.ErrPower)
	goes(t, two, "append b z", api.OK)
	goes(t, two, "sync b", api.OK)
	one.Crash(nil)
	holds(t, one, "a=")
	holds(t, two, "b=xyz")
	if one.Calls() != 2 || two.Calls() != 4 {
		t.Error(one.Calls(), two.Calls())
	}
}

// R4: what is answered hangs on the disk alone, whoever asks others at the same time.
func TestAtOnce(t *testing.T) {
	tell := func(n int) string {
		d := disk.New(20 + n)
		var b strings.Builder
		for i := range 60 {
			name := string(rune('a' + i*n%7))
			other := string(rune('a' + i*i%7))
			fmt.Fprint(&b, d.Create(name), d.Append(name, []byte("0123456789")[:i%10]), d.Append(other, []byte("xy")), d.Sync(other), d.Rename(other, name))
			if i%7 == n%7 {
				fmt.Fprint(&b, d.Arm(api.ErrSpace+api.Errno(i%2), i%5))
			}
			if i%11 == n%11 {
				d.Crash([]int{1, n % 4, 2})
			}
			for _, name := range d.List() {
				got, err := d.Read(name)
				fmt.Fprintln(&b, name, got, err, d.Used(), d.Calls())
			}
		}
		return b.String()
	}
	var was [20]string
	for n := range was {
		was[n] = tell(n)
	}
	var wait sync.WaitGroup
	for range 8 {
		wait.Go(func() {
			for range 5 {
				for n, want := range was {
					if tell(n) != want {
						t.Error("it tells another thing:", n)
					}
				}
			}
		})
	}
	wait.Wait()
}

// R1: many small Appends end, as do all of a disk's bytes in one.
func TestMany(t *testing.T) {
	d := disk.New(math.MaxInt)
	d.Create("a")
	for i := range 1 << 19 {
		if err := d.Append("a", []byte{byte(i), byte(i >> 8)}); err != api.OK {
			t.Fatal(err)
		}
		if i%1000 == 0 {
			d.Sync("a")
		}
	}
	b, err := d.Read("a")
	if len(b) != 1<<20 || err != api.OK || d.Used() != 1<<20 {
		t.Fatal(len(b), err, d.Used())
	}
	for i := range 1 << 19 {
		if b[2*i] != byte(i) || b[2*i+1] != byte(i>>8) {
			t.Fatal(i)
		}
	}
}
