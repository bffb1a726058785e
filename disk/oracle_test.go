package disk_test

import (
	"fmt"
	"math"
	"math/rand"
	"slices"
	"sort"
	"strings"
	"testing"

	"palaver/api"
	"palaver/disk"
)

// The chapter, written down a second time: names stand in a list, all files' bytes in one other list
// in the order in which they came, each with the name of its file; calls have numbers, and what is
// armed is the number of the one that fails.

// cell is a byte on a disk.
type cell struct {
	of   string
	c    byte
	sure bool
}

// model is a disk.
type model struct {
	room  int
	names []string
	cells []cell
	calls uint64
	kind  api.Errno
	at    uint64
	dark  bool
}

func newModel(room int) *model {
	if room > 1<<24 {
		room = 1 << 24
	}
	if room < 0 {
		room = 0
	}
	return &model{room: room}
}

// op is something that is done to a disk.
type op struct {
	what     string
	name, to string
	b        string
	kind     api.Errno
	after    int
	picks    []int
}

// on does it to a disk.
func (o op) on(d *disk.Disk) api.Errno {
	switch o.what {
	case "create":
		return d.Create(o.name)
	case "append":
		return d.Append(o.name, []byte(o.b))
	case "sync":
		return d.Sync(o.name)
	case "rename":
		return d.Rename(o.name, o.to)
	case "remove":
		return d.Remove(o.name)
	case "arm":
		return d.Arm(o.kind, o.after)
	}
	d.Crash(o.picks)
	return api.OK
}

// of does it to a model.
func (o op) of(m *model) api.Errno {
	switch o.what {
	case "arm":
		if o.after < 0 || o.kind != 18 && o.kind != 19 {
			return 1
		}
		m.kind, m.at = o.kind, m.calls+1+uint64(o.after)
		return 0
	case "crash":
		m.crash(o.picks)
		return 0
	}
	m.calls++
	if m.dark {
		return 19
	}
	if m.kind != 0 && m.calls == m.at {
		m.dark = m.kind == 19
		if o.what == "append" && m.has(o.name) {
			m.add(o.name, o.b[:len(o.b)/2])
		}
		return m.kind
	}
	for _, name := range map[bool][]string{false: {o.name}, true: {o.name, o.to}}[o.what == "rename"] {
		if name == "" || len(name) > 32 {
			return 1
		}
	}
	if !m.has(o.name) && o.what != "create" {
		return 3
	}
	switch o.what {
	case "create":
		if !m.has(o.name) && len(m.names) >= 64 {
			return 2
		}
		m.drop(o.name)
		m.names = append(m.names, o.name)
	case "append":
		if !m.add(o.name, o.b) {
			return 18
		}
	case "sync":
		for i, c := range m.cells {
			m.cells[i].sure = c.sure || c.of == o.name
		}
	case "rename":
		if o.name == o.to {
			break
		}
		m.drop(o.to)
		for i, c := range m.cells {
			if c.of == o.name {
				m.cells[i].of = o.to
			}
		}
		m.names[slices.Index(m.names, o.name)] = o.to
	case "remove":
		m.drop(o.name)
	}
	return 0
}

func (m *model) has(name string) bool { return slices.Contains(m.names, name) }

// drop takes a file away, if there is one.
func (m *model) drop(name string) {
	m.names = slices.DeleteFunc(m.names, func(s string) bool { return s == name })
	m.cells = slices.DeleteFunc(m.cells, func(c cell) bool { return c.of == name })
}

// add puts bytes, if they have room.
func (m *model) add(name, b string) bool {
	if len(m.cells)+len(b) > m.room {
		return false
	}
	for _, c := range []byte(b) {
		m.cells = append(m.cells, cell{name, c, false})
	}
	return true
}

func (m *model) crash(picks []int) {
	m.kind, m.dark = 0, false
	sort.Strings(m.names)
	kept := map[string]int{}
	for i, name := range m.names {
		if len(picks) > 0 {
			kept[name] = picks[i%len(picks)]
		}
	}
	var left []cell
	for _, c := range m.cells {
		if c.sure || kept[c.of] > 0 {
			if !c.sure {
				kept[c.of]--
			}
			left = append(left, cell{c.of, c.c, true})
		}
	}
	m.cells = left
}

// read is what a file has.
func (m *model) read(name string) string {
	var b []byte
	for _, c := range m.cells {
		if c.of == name {
			b = append(b, c.c)
		}
	}
	return string(b)
}

// alike fails the test if a disk is not what a model is.
func alike(t testing.TB, d *disk.Disk, m *model, how func() string) {
	t.Helper()
	names := slices.Clone(m.names)
	sort.Strings(names)
	if got := d.List(); !slices.Equal(got, names) {
		t.Fatalf("%s: List: %q; should be %q", how(), got, names)
	}
	for _, name := range names {
		if b, err := d.Read(name); string(b) != m.read(name) || err != api.OK {
			t.Fatalf("%s: Read(%q): %q, %d; should be %q", how(), name, b, err, m.read(name))
		}
	}
	if d.Used() != len(m.cells) || uint64(d.Calls()) != m.calls {
		t.Fatalf("%s: %d used, %d calls; should be %d, %d", how(), d.Used(), d.Calls(), len(m.cells), m.calls)
	}
}

// both does something to both, and fails the test if they do not answer alike.
func both(t testing.TB, d *disk.Disk, m *model, o op, how func() string) api.Errno {
	t.Helper()
	got, want := o.on(d), o.of(m)
	if got != want {
		t.Fatalf("%s: %+v: %d; should be %d", how(), o, got, want)
	}
	return got
}

// P17.1 to P17.3: all ways in which five of a few things come one behind the other.
func TestAllWays(t *testing.T) {
	things := []op{
		{what: "create", name: "a"}, {what: "create", name: "b"},
		{what: "append", name: "a", b: "xyz"}, {what: "append", name: "b", b: "pq"},
		{what: "sync", name: "a"}, {what: "sync", name: "b"},
		{what: "rename", name: "a", to: "b"}, {what: "rename", name: "b", to: "a"},
		{what: "remove", name: "a"},
		{what: "arm", kind: 18, after: 0}, {what: "arm", kind: 19, after: 1},
		{what: "crash"}, {what: "crash", picks: []int{1, 2}},
	}
	first := [][]op{
		nil,
		{things[0], things[2]},
		{things[0], things[1], things[2], things[5], things[4], things[3]},
	}
	const steps = 5
	total := 1
	for range steps {
		total *= len(things)
	}
	for start, ahead := range first {
		for way := range total {
			d, m := disk.New(7), newModel(7)
			how := func() string { return fmt.Sprintf("start %d, way %d", start, way) }
			for _, o := range ahead {
				both(t, d, m, o, how)
			}
			for rest, i := way, 0; i < steps; rest, i = rest/len(things), i+1 {
				both(t, d, m, things[rest%len(things)], how)
			}
			alike(t, d, m, how)
			// What is armed, whether the power is there, what is pending: all that is told by what comes.
			both(t, d, m, op{what: "append", name: "a", b: "12"}, how)
			both(t, d, m, op{what: "sync", name: "q"}, how)
			both(t, d, m, op{what: "crash", picks: []int{1}}, how)
			alike(t, d, m, how)
		}
	}
}

// P17.1 to P17.4: things done by chance, one behind the other; what was synced is there behind each crash.
func TestChance(t *testing.T) {
	by := rand.New(rand.NewSource(17))
	answers := map[api.Errno]int{}
	kept, lost := 0, 0
	for round := range 1500 {
		room := []int{0, 1, 10, 30, 100, 1000, 1 << 30}[by.Intn(7)]
		files := []int{1, 2, 5, 100}[by.Intn(4)]
		d, m := disk.New(room), newModel(room)
		synced := map[string]string{} // what a crash may not take
		var did []op
		how := func() string { return fmt.Sprintf("round %d, room %d, %+v", round, room, did) }
		for i := range 250 {
			o := some(by, files)
			if i < files-36 {
				o = op{what: "create", name: fmt.Sprint("f", i)} // that there be as many as may be
			}
			did = append(did, o)
			was := reads(d)
			err := both(t, d, m, o, how)
			answers[err]++
			if err == api.OK {
				follow(d, synced, o)
			}
			if o.what == "crash" {
				k, l := spared(t, was, reads(d), synced, how)
				kept, lost = kept+k, lost+l
			}
			if round%10 == 0 || o.what == "crash" {
				alike(t, d, m, how)
			}
		}
		alike(t, d, m, how)
	}
	for _, err := range []api.Errno{0, 1, 2, 3, 18, 19} {
		if answers[err] < 500 {
			t.Errorf("%d answers %d", answers[err], err)
		}
	}
	if len(answers) != 6 || kept < 1000 || lost < 1000 {
		t.Error(answers, kept, lost)
	}
}

// some is something to do.
func some(by *rand.Rand, files int) op {
	name := func() string {
		if by.Intn(25) == 0 {
			return []string{"", strings.Repeat("n", 32), strings.Repeat("n", 33), "\xff", "\x00"}[by.Intn(5)]
		}
		return fmt.Sprint("f", by.Intn(files))
	}
	switch k := by.Intn(100); {
	case k < 30:
		return op{what: "create", name: name()}
	case k < 62:
		b := make([]byte, by.Intn(9)*by.Intn(3))
		by.Read(b)
		return op{what: "append", name: name(), b: string(b)}
	case k < 76:
		return op{what: "sync", name: name()}
	case k < 85:
		return op{what: "rename", name: name(), to: name()}
	case k < 88:
		return op{what: "remove", name: name()}
	case k < 95:
		kind := api.Errno(18 + by.Intn(2))
		after := by.Intn(12)
		if by.Intn(10) == 0 {
			kind = api.Errno(by.Intn(26))
		}
		if by.Intn(10) == 0 {
			after = []int{-1, math.MinInt, math.MaxInt, 1 << 40}[by.Intn(4)]
		}
		return op{what: "arm", kind: kind, after: after}
	}
	picks := make([]int, by.Intn(5))
	for i := range picks {
		picks[i] = by.Intn(9) - 1
		if by.Intn(9) == 0 {
			picks[i] = []int{math.MinInt, math.MaxInt}[by.Intn(2)]
		}
	}
	return op{what: "crash", picks: picks}
}

// reads is what all files have.
func reads(d *disk.Disk) map[string]string {
	all := map[string]string{}
	for _, name := range d.List() {
		b, _ := d.Read(name)
		all[name] = string(b)
	}
	return all
}

// follow holds what a crash may not take, behind a call that answered OK.
func follow(d *disk.Disk, synced map[string]string, o op) {
	switch o.what {
	case "create":
		synced[o.name] = ""
	case "sync":
		b, _ := d.Read(o.name)
		synced[o.name] = string(b)
	case "rename":
		was := synced[o.name]
		delete(synced, o.name)
		synced[o.to] = was
	case "remove":
		delete(synced, o.name)
	}
}

// spared fails the test if a crash took what it may not; how many files kept something that was not
// synced, how many lost something. What is left may not be taken from then on.
func spared(t testing.TB, was, is, synced map[string]string, how func() string) (int, int) {
	t.Helper()
	if len(is) != len(was) || len(is) != len(synced) {
		t.Fatalf("%s: %d files; were %d, should be %d", how(), len(is), len(was), len(synced))
	}
	kept, lost := 0, 0
	for name, b := range is {
		sure, there := synced[name]
		if !there || !strings.HasPrefix(b, sure) || !strings.HasPrefix(was[name], b) {
			t.Fatalf("%s: %q has %q; synced was %q, %t, of %q", how(), name, b, sure, there, was[name])
		}
		if len(b) > len(sure) {
			kept++
		}
		if len(b) < len(was[name]) {
			lost++
		}
		synced[name] = b
	}
	return kept, lost
}
