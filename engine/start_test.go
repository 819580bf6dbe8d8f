package engine_test

import (
	"math"
	"testing"

	"gharry/api"
	"gharry/base"
	"gharry/disk"
	"gharry/engine"
	"gharry/pool"
	"gharry/wal"
)

// Promise 17.1: Format.

func TestFormat(t *testing.T) {
	for _, c := range []struct{ sectors, node, seen int }{
		{16, 0, 0}, {16, 1, 7}, {roomy, 0, 1}, {api.MaxSectors, 1, 1<<32 - 1},
	} {
		d := newDisk(t, c.sectors)
		wantErr(t, "Format", engine.Format(d, c.node, c.seen), api.OK)
		got, err := base.Load(d)
		want := base.Base{Node: c.node, Gen: 1, Redo: 1, Seen: c.seen, Joined: c.seen}
		if got != want || err != api.OK || len(d.Waiting()) > 0 {
			t.Errorf("Format: %+v, error %d, want %+v", got, err, want)
		}
		if d.Acts() != 2 {
			t.Errorf("Format: %d acts", d.Acts())
		}
	}
}

// A base of before is none any more.
func TestFormatAnew(t *testing.T) {
	d := newDisk(t, 16)
	ok(t, "base: Save", base.Save(d, base.Base{Node: 1, Boot: 5, Gen: 6, Check: 7, Redo: 8, Seen: 9, Joined: 10}))
	ok(t, "Format", engine.Format(d, 0, 3))
	if got, _ := base.Load(d); got != (base.Base{Gen: 1, Redo: 1, Seen: 3, Joined: 3}) {
		t.Errorf("Format: %+v", got)
	}
}

func TestFormatRefused(t *testing.T) {
	off := newDisk(t, 16)
	ok(t, "Crash", off.Crash(0))
	for _, c := range []struct {
		what       string
		d          *disk.Disk
		node, seen int
		want       api.Errno
	}{
		{"nil", nil, 0, 0, api.ErrArg},
		{"nil, and all else is wrong", nil, 2, -1, api.ErrArg},
		{"node 2", newDisk(t, 16), 2, 0, api.ErrArg},
		{"node -1", newDisk(t, 16), -1, 0, api.ErrArg},
		{"the greatest node", newDisk(t, 16), math.MaxInt, 0, api.ErrArg},
		{"seen -1", newDisk(t, 16), 0, -1, api.ErrArg},
		{"the least seen", newDisk(t, 16), 0, math.MinInt, api.ErrArg},
		{"node 2 of a small disk", newDisk(t, 15), 2, 0, api.ErrArg},
		{"a small disk", newDisk(t, 15), 0, 0, api.ErrRange},
		{"a disk that nobody made", &disk.Disk{}, 0, 0, api.ErrRange},
		{"seen has no room", newDisk(t, 16), 0, 1 << 32, api.ErrRange},
		{"seen has no room, and no power", off, 0, 1 << 32, api.ErrRange},
		{"no power", off, 0, 0, api.ErrDown},
	} {
		wantErr(t, c.what, engine.Format(c.d, c.node, c.seen), c.want)
		if c.d.Up() {
			if _, err := base.Load(c.d); err != api.ErrNone || c.d.Acts() > 0 {
				t.Errorf("%s: something was saved", c.what)
			}
		}
	}
}

// A log of one sector, and two pages, are enough.
func TestFormatOfAllSizes(t *testing.T) {
	for sectors := 1; sectors <= 60; sectors++ {
		many, _, pages := base.Plan(sectors)
		want := api.OK
		if many < 1 || pages < 2 {
			want = api.ErrRange
		}
		wantErr(t, "Format", engine.Format(newDisk(t, sectors), 0, 0), want)
	}
}

func TestFormatWithoutPower(t *testing.T) {
	for acts := range 2 {
		d := newDisk(t, 16)
		ok(t, "Arm", d.Arm(acts, 0))
		wantErr(t, "Format", engine.Format(d, 0, 0), api.ErrDown)
	}
}

// Promise 17.1: Start.

func TestStart(t *testing.T) {
	for _, c := range []struct{ sectors, node, seen, frames int }{
		{16, 0, 0, pool.Least}, {roomy, 1, 1<<32 - 1, pool.Most}, {1201, 1, 5, 8},
	} {
		b := newBench(t, c.sectors, c.node, c.seen, c.frames)
		b.wantBase("Start", base.Base{Node: c.node, Boot: 1, Gen: 1, Redo: 1, Seen: c.seen, Joined: c.seen})
		if !b.g.Up() || b.g.Leads() || !b.g.Whole() || b.g.Redone() != 0 || len(b.g.Going()) > 0 {
			t.Errorf("Start of %d sectors: up %v, leads %v", c.sectors, b.g.Up(), b.g.Leads())
		}
		l := b.g.Log()
		many, _, _ := base.Plan(c.sectors)
		if l.End() != 1 || l.Run() != 1 || l.Left() != many*58 || b.g.Disk() != b.d {
			t.Errorf("Start of %d sectors: a log to %d, in the run %d, with %d left", c.sectors, l.End(), l.Run(), l.Left())
		}
		b.wantCells("Start")
		b.wantRead("Start", "a", "", false)
	}
}

// Each start is counted, with and without a loss of power ahead, and is the run of the log.
func TestStartIsCounted(t *testing.T) {
	b := led(t)
	b.committed("a", "1")
	for boot := 2; boot < 6; boot++ {
		if boot%2 == 0 {
			b.crash(0)
		}
		b.start()
		if b.g.Base().Boot != boot || b.g.Log().Run() != boot || b.g.Leads() {
			t.Errorf("start %d: Boot %d, run %d, leads %v", boot, b.g.Base().Boot, b.g.Log().Run(), b.g.Leads())
		}
		b.wantCells("Start", cells("a", "1")...)
	}
}

// The parts stand where the plan says, and pages count of the base's generation alone.
func TestStartOfAPlan(t *testing.T) {
	b := led(t)
	b.committed("a", "1")
	b.ok("Flush", b.g.Flush())
	many, _, pages := base.Plan(roomy)
	l, err := wal.Open(copyOf(t, b.d), 1, many, 1)
	b.ok("wal.Open", err)
	if l.End() != b.g.Log().End() || pages != 200 || b.lacking() != 0 {
		t.Errorf("the log ends at %d, want %d; %d pages lack something", l.End(), b.g.Log().End(), b.lacking())
	}
	saved := b.g.Base()
	saved.Gen, saved.Redo = 2, b.g.Log().End()
	b.ok("base: Save", base.Save(b.d, saved))
	b.start()
	b.wantCells("Start of another generation")
}

func TestStartRefused(t *testing.T) {
	off := newDisk(t, 16)
	ok(t, "Format", engine.Format(off, 0, 0))
	ok(t, "Crash", off.Crash(0))
	for _, c := range []struct {
		what   string
		d      *disk.Disk
		frames int
		want   api.Errno
	}{
		{"nil", nil, 8, api.ErrArg},
		{"nil, and no frames", nil, 0, api.ErrArg},
		{"a disk that nobody made", &disk.Disk{}, 8, api.ErrState},
		{"a disk without a base", newDisk(t, 16), 8, api.ErrNone},
		{"a disk without a base, and no frames", newDisk(t, 16), 0, api.ErrNone},
		{"no power", off, 8, api.ErrDown},
		{"no power, and no frames", off, 0, api.ErrDown},
	} {
		g, err := engine.Start(c.d, c.frames)
		wantErr(t, c.what, err, c.want)
		if g != nil {
			t.Errorf("%s: there is an engine", c.what)
		}
	}
}

// What is wrong with frames, and with a base, is told ahead of the first change.
func TestStartOfWrongNumbers(t *testing.T) {
	right := base.Base{Boot: 3, Gen: 1, Redo: 1}
	with := func(turn func(b *base.Base)) base.Base {
		b := right
		turn(&b)
		return b
	}
	for _, c := range []struct {
		what            string
		sectors, frames int
		b               base.Base
		want            api.Errno
	}{
		{"no frames", 16, 0, right, api.ErrArg},
		{"one frame", 16, pool.Least - 1, right, api.ErrArg},
		{"too many frames", 16, pool.Most + 1, right, api.ErrArg},
		{"frames below 0", 16, math.MinInt, right, api.ErrArg},
		{"no generation", 16, 8, with(func(b *base.Base) { b.Gen = 0 }), api.ErrArg},
		{"no log", 2, 8, right, api.ErrArg},
		{"no pages", 7, 8, right, api.ErrArg},
		{"Boot", 16, 8, with(func(b *base.Base) { b.Boot = 1<<24 - 1 }), api.ErrRange},
		{"Boot, and no frames", 16, 0, with(func(b *base.Base) { b.Boot = 1<<24 - 1 }), api.ErrRange},
		{"a greater Boot", 16, 8, with(func(b *base.Base) { b.Boot = 1 << 24 }), api.ErrRange},
		{"the greatest Boot", 16, 8, with(func(b *base.Base) { b.Boot = 1<<32 - 1 }), api.ErrRange},
	} {
		d := newDisk(t, c.sectors)
		ok(t, "base: Save", base.Save(d, c.b))
		acts := d.Acts()
		g, err := engine.Start(d, c.frames)
		wantErr(t, c.what, err, c.want)
		if got, _ := base.Load(d); g != nil || got != c.b || d.Acts() != acts {
			t.Errorf("%s: an engine, or another base: %+v", c.what, got)
		}
	}
}

func TestStartOfTheGreatestNumbers(t *testing.T) {
	d := newDisk(t, 16)
	want := base.Base{Node: 1, Boot: 1<<24 - 2, Gen: 1<<16 - 1, Redo: 1, Seen: 9, Joined: 4}
	ok(t, "base: Save", base.Save(d, want))
	b := &bench{t: t, frames: 2, d: d}
	b.start()
	want.Boot++
	b.wantBase("Start", want)
}

// A log that can't be done again, or whose transactions can't be told, is damage.
func TestStartOfDamage(t *testing.T) {
	root := rootOf(t)
	for _, c := range []struct {
		what    string
		check   int
		redo    int
		records []api.Rec
		want    api.Errno
	}{
		{"a key that is there", 0, 1, []api.Rec{root, insert(1, 1, "a", "1"), insert(1, 1, "a", "2")}, api.ErrDamage},
		{"no record at Redo", 0, 2, []api.Rec{root}, api.ErrDamage},
		{"no check", 1, 1, []api.Rec{root}, api.ErrDamage},
		{"no record at Check", 2, 1, []api.Rec{root}, api.ErrDamage},
		{"a check behind the end", 10000, 1, []api.Rec{root}, api.ErrDamage},
		{"another one's record", 0, 1, []api.Rec{root, insert(1, 1, "a", "1"), behind(1, insert(2, 1, "b", "1"))}, api.ErrDamage},
		{"a page that is none", 0, 1, []api.Rec{root, insert(1, 200, "a", "1")}, api.ErrRange},
	} {
		b := newBench(t, roomy, 0, 0, 8)
		for _, r := range c.records {
			b.add(r)
		}
		b.ok("wal: Flush", b.g.Log().Flush())
		saved := b.g.Base()
		saved.Check, saved.Redo = c.check, c.redo
		b.ok("base: Save", base.Save(b.d, saved))
		g, err := engine.Start(b.d, 8)
		wantErr(t, c.what, err, c.want)
		if g != nil {
			t.Errorf("%s: there is an engine", c.what)
		}
	}
}

// Where Redo says, not ahead of it, and whose table Check tells.
func TestStartFromItsBase(t *testing.T) {
	b := led(t)
	b.committed("a", "1", "b", "2")
	id := b.open()
	b.ok("Check", b.g.Check())
	b.put(id, "q", "open")
	b.ok("wal: Flush", b.g.Log().Flush())
	saved := b.g.Base()
	records, places := b.g.Log().Records()
	many := 0
	for i := range records {
		if places[i] >= saved.Redo {
			many++
		}
	}
	b.crash(0)
	b.start()
	if got := b.g.Redone(); got != many || many == len(records) {
		t.Errorf("Redone: %d, want %d of %d", got, many, len(records))
	}
	b.wantCells("Start", cells("a", "1", "b", "2")...)

	// A check that tells of nobody is believed: then what was open counts as committed.
	saved = b.g.Base()
	saved.Check = b.add(api.Rec{Kind: api.RecCheck})
	b.ok("wal: Flush", b.g.Log().Flush())
	b.ok("base: Save", base.Save(b.d, saved))
	b.start()
	b.wantCells("Start of a check", cells("a", "open", "q", "open", "z", "open")...)
}

// Power that goes at any act of a start: the next one is as this one would have been.
func TestStartWithoutPower(t *testing.T) {
	b := led(t)
	b.committed("a", "1", "b", "2")
	b.open()
	b.ok("wal: Flush", b.g.Log().Flush())
	b.crash(0)
	for acts := 0; ; acts++ {
		d := copyOf(t, b.d)
		ok(t, "Arm", d.Arm(acts, 1))
		g, err := engine.Start(d, 2)
		if err == api.OK {
			if acts < 4 {
				t.Errorf("Start: %d acts", acts)
			}
			break
		}
		if g != nil || err != api.ErrDown {
			t.Errorf("Start: error %d", err)
		}
		started(t, d, 2).wantCells("Start", cells("a", "1", "b", "2")...)
	}
}
