package base_test

import (
	"math"
	"math/rand"
	"slices"
	"strings"
	"testing"

	"gharry/api"
	"gharry/base"
	"gharry/disk"
)

const (
	all     = math.MaxUint64
	sign    = "\x00\x07gharry1" // the text, laid
	used    = 36                // bytes of the sector that a base has
	maxBoot = 1<<32 - 1
)

// field is a number of a base: how many bytes it has, and where it stands.
type field struct {
	name  string
	width int
	of    func(b *base.Base) *int
}

func fields() []field {
	return []field{
		{"Node", 1, func(b *base.Base) *int { return &b.Node }},
		{"Boot", 4, func(b *base.Base) *int { return &b.Boot }},
		{"Gen", 2, func(b *base.Base) *int { return &b.Gen }},
		{"Check", 6, func(b *base.Base) *int { return &b.Check }},
		{"Redo", 6, func(b *base.Base) *int { return &b.Redo }},
		{"Seen", 4, func(b *base.Base) *int { return &b.Seen }},
		{"Joined", 4, func(b *base.Base) *int { return &b.Joined }},
	}
}

func (f field) greatest() int { return 1<<(8*f.width) - 1 }

// with is a base of which one number is another one.
func (f field) with(b base.Base, n int) base.Base {
	*f.of(&b) = n
	return b
}

func ordinary() base.Base {
	return base.Base{Node: 1, Boot: 4, Gen: 2, Check: 70, Redo: 60, Seen: 3, Joined: 2}
}

// greatest has in each number the greatest that has room.
func greatest() base.Base {
	var b base.Base
	for _, f := range fields() {
		b = f.with(b, f.greatest())
	}
	return b
}

// random has in each number one that has room, of few bytes as often as of many.
func random(r *rand.Rand) base.Base {
	var b base.Base
	for _, f := range fields() {
		b = f.with(b, r.Intn(1<<(8*(1+r.Intn(f.width)))))
	}
	return b
}

// many are bases of all kinds: each number 0, 1, in the middle, just the greatest.
func many() []base.Base {
	bases := []base.Base{{}, ordinary(), greatest()}
	for _, f := range fields() {
		for _, n := range []int{0, 1, 127, 128, 255, f.greatest() / 3, f.greatest() - 1, f.greatest()} {
			bases = append(bases, f.with(base.Base{}, n), f.with(ordinary(), n), f.with(greatest(), n))
		}
	}
	r := rand.New(rand.NewSource(9))
	for range 300 {
		bases = append(bases, random(r))
	}
	return bases
}

// sector is a whole sector that begins with a text, with noughts behind.
func sector(s string) string { return s + strings.Repeat("\x00", api.SectorBytes-len(s)) }

// laid is the sector of a base, written by hand.
func laid(b base.Base) string {
	s := []byte(sign)
	for _, f := range fields() {
		for i := f.width - 1; i >= 0; i-- {
			s = append(s, byte(*f.of(&b)>>(8*i)))
		}
	}
	return sector(string(s))
}

func newDisk(t *testing.T, sectors int) *disk.Disk {
	t.Helper()
	d, err := disk.New(sectors)
	if err != api.OK {
		t.Fatalf("disk.New(%d): error %d", sectors, err)
	}
	return d
}

// newHome is a disk whose first sector has these bytes, which last.
func newHome(t *testing.T, bytes string) *disk.Disk {
	t.Helper()
	d := newDisk(t, 5)
	put(t, d, 0, bytes)
	wantErr(t, "Sync", d.Sync(), api.OK)
	return d
}

func put(t *testing.T, d *disk.Disk, i int, bytes string) {
	t.Helper()
	if err := d.Write(i, bytes); err != api.OK {
		t.Fatalf("disk: Write(%d): error %d", i, err)
	}
}

func wantErr(t *testing.T, what string, got, want api.Errno) {
	t.Helper()
	if got != want {
		t.Errorf("%s: error %d, want %d", what, got, want)
	}
}

func save(t *testing.T, d *disk.Disk, b base.Base) {
	t.Helper()
	if err := base.Save(d, b); err != api.OK {
		t.Fatalf("Save(%+v): error %d", b, err)
	}
}

func wantLoad(t *testing.T, d *disk.Disk, want base.Base) {
	t.Helper()
	if got, err := base.Load(d); got != want || err != api.OK {
		t.Errorf("Load: %+v, error %d; want %+v", got, err, want)
	}
}

func wantNoLoad(t *testing.T, d *disk.Disk, want api.Errno) {
	t.Helper()
	if got, err := base.Load(d); got != (base.Base{}) || err != want {
		t.Errorf("Load: %+v, error %d; want noughts, error %d", got, err, want)
	}
}

func wantStart(t *testing.T, d *disk.Disk, want base.Base) {
	t.Helper()
	if got, err := base.Start(d); got != want || err != api.OK {
		t.Errorf("Start: %+v, error %d; want %+v", got, err, want)
	}
}

func wantNoStart(t *testing.T, d *disk.Disk, want api.Errno) {
	t.Helper()
	if got, err := base.Start(d); got != (base.Base{}) || err != want {
		t.Errorf("Start: %+v, error %d; want noughts, error %d", got, err, want)
	}
}

func wantSector(t *testing.T, d *disk.Disk, i int, want string) {
	t.Helper()
	if got, err := d.Read(i); got != want || err != api.OK {
		t.Errorf("sector %d: error %d\n got %q\nwant %q", i, err, got, want)
	}
}

func wantActs(t *testing.T, d *disk.Disk, acts int, waiting ...int) {
	t.Helper()
	if got := d.Waiting(); d.Acts() != acts || !slices.Equal(got, waiting) {
		t.Errorf("%d acts, waiting %v; want %d, %v", d.Acts(), got, acts, waiting)
	}
}

// lose lets the power go, and on again.
func lose(t *testing.T, d *disk.Disk, keep uint64) {
	t.Helper()
	wantErr(t, "Crash", d.Crash(keep), api.OK)
	powerOn(t, d)
}

func powerOn(t *testing.T, d *disk.Disk) {
	t.Helper()
	if err := d.Start(); err != api.OK {
		t.Fatalf("disk: Start: error %d", err)
	}
}

// wantUnturned does a call on a disk that is armed at its next act, and on which
// something waits: there may be no act, and all is as it was.
func wantUnturned(t *testing.T, d *disk.Disk, call func()) {
	t.Helper()
	put(t, d, 3, "waits")
	before, acts, downs := image(t, d), d.Acts(), d.Downs()
	wantErr(t, "Arm", d.Arm(0, all), api.OK)
	call()
	if d.Downs() != downs {
		t.Fatal("an act of the disk, and none is due")
	}
	d.Calm()
	wantActs(t, d, acts, 3)
	if after := image(t, d); !slices.Equal(before, after) {
		t.Errorf("sectors turned\n from %q\n   to %q", before, after)
	}
}

func image(t *testing.T, d *disk.Disk) []string {
	t.Helper()
	var sectors []string
	for i := range d.Size() {
		s, err := d.Read(i)
		if err != api.OK {
			t.Fatalf("disk: Read(%d): error %d", i, err)
		}
		sectors = append(sectors, s)
	}
	return sectors
}

// Promise 9.1: Save.

func TestSaveByHand(t *testing.T) {
	d := newDisk(t, 2)
	save(t, d, base.Base{Node: 1, Boot: 4, Gen: 2, Check: 70, Redo: 60, Seen: 3, Joined: 258})
	wantSector(t, d, 0, sector("\x00\x07gharry1"+
		"\x01"+
		"\x00\x00\x00\x04"+
		"\x00\x02"+
		"\x00\x00\x00\x00\x00\x46"+
		"\x00\x00\x00\x00\x00\x3c"+
		"\x00\x00\x00\x03"+
		"\x00\x00\x01\x02"))
}

func TestSaveWritesTheFirstSector(t *testing.T) {
	for _, b := range many() {
		d := newDisk(t, 4)
		for i := range 4 {
			put(t, d, i, strings.Repeat("x", api.SectorBytes))
		}
		wantErr(t, "Sync", d.Sync(), api.OK)
		save(t, d, b)
		wantSector(t, d, 0, laid(b))
		for i := 1; i < 4; i++ {
			wantSector(t, d, i, strings.Repeat("x", api.SectorBytes))
		}
	}
}

func TestSaveOnADiskOfOneSector(t *testing.T) {
	d := newDisk(t, 1)
	save(t, d, ordinary())
	wantSector(t, d, 0, laid(ordinary()))
	wantLoad(t, d, ordinary())
}

func TestSaveLasts(t *testing.T) {
	for _, b := range many() {
		d := newDisk(t, 4)
		save(t, d, b)
		wantActs(t, d, 2)
		lose(t, d, 0)
		wantSector(t, d, 0, laid(b))
		wantLoad(t, d, b)
	}
}

func TestSaveLetsWhatWaitedLast(t *testing.T) {
	d := newDisk(t, 4)
	put(t, d, 2, "waits")
	save(t, d, ordinary())
	wantActs(t, d, 3)
	lose(t, d, 0)
	wantSector(t, d, 2, sector("waits"))
}

func TestSaveAgain(t *testing.T) {
	d := newDisk(t, 2)
	for _, b := range many() {
		save(t, d, b)
		wantSector(t, d, 0, laid(b))
		wantLoad(t, d, b)
	}
}

func TestSaveRefusesNumbers(t *testing.T) {
	for _, f := range fields() {
		for _, n := range []int{-1, -2, -f.greatest() - 1, f.greatest() + 1, 2 * (f.greatest() + 1), math.MinInt, math.MaxInt} {
			for _, from := range []base.Base{{}, ordinary(), greatest()} {
				d := newHome(t, laid(ordinary()))
				wantUnturned(t, d, func() {
					wantErr(t, f.name, base.Save(d, f.with(from, n)), api.ErrRange)
				})
				wantLoad(t, d, ordinary())
			}
		}
	}
}

func TestSaveRefusesOnANewDisk(t *testing.T) {
	d := newDisk(t, 5)
	wantUnturned(t, d, func() {
		wantErr(t, "Save", base.Save(d, base.Base{Node: 256}), api.ErrRange)
	})
	wantNoLoad(t, d, api.ErrNone)
}

func TestSaveTellsTheDisksErrors(t *testing.T) {
	wantErr(t, "nil disk", base.Save(nil, ordinary()), api.ErrState)
	wantErr(t, "disk that nobody made", base.Save(new(disk.Disk), ordinary()), api.ErrState)

	d := newHome(t, laid(ordinary()))
	wantErr(t, "Crash", d.Crash(0), api.OK)
	wantErr(t, "power off", base.Save(d, greatest()), api.ErrDown)
	if d.Up() {
		t.Error("Save let the power on")
	}
	wantActs(t, d, 2)
	powerOn(t, d)
	wantLoad(t, d, ordinary())
}

func TestSaveTellsANumberAheadOfTheDisk(t *testing.T) {
	off := newDisk(t, 2)
	wantErr(t, "Crash", off.Crash(0), api.OK)
	for _, d := range []*disk.Disk{nil, new(disk.Disk), off} {
		for _, f := range fields() {
			wantErr(t, f.name, base.Save(d, f.with(ordinary(), -1)), api.ErrRange)
			wantErr(t, f.name, base.Save(d, f.with(ordinary(), f.greatest()+1)), api.ErrRange)
		}
	}
}

// Promise 9.1: Load.

func TestLoadOfANewDisk(t *testing.T) {
	for _, sectors := range []int{1, 2, api.MaxSectors} {
		wantNoLoad(t, newDisk(t, sectors), api.ErrNone)
	}
}

func TestLoadOfWhatWasSaved(t *testing.T) {
	for _, b := range many() {
		d := newDisk(t, 5)
		save(t, d, b)
		wantUnturned(t, d, func() {
			wantLoad(t, d, b)
			wantLoad(t, d, b)
		})
	}
}

func TestLoadOfAnyBytesBehindTheText(t *testing.T) {
	r := rand.New(rand.NewSource(91))
	for range 500 {
		bytes := make([]byte, api.SectorBytes)
		r.Read(bytes)
		copy(bytes, sign)
		var want base.Base
		at := len(sign)
		for _, f := range fields() {
			n := 0
			for _, b := range bytes[at : at+f.width] {
				n = 256*n + int(b)
			}
			at += f.width
			want = f.with(want, n)
		}
		wantLoad(t, newHome(t, string(bytes)), want)
	}
}

func TestLoadOfTheTextAlone(t *testing.T) {
	wantLoad(t, newHome(t, sign), base.Base{})
	wantLoad(t, newHome(t, sign+strings.Repeat("\xff", api.SectorBytes-len(sign))), greatest())
}

func TestLoadPassesOverWhatStandsBehind(t *testing.T) {
	for i := used; i < api.SectorBytes; i++ {
		bytes := []byte(laid(ordinary()))
		bytes[i] = 255
		wantLoad(t, newHome(t, string(bytes)), ordinary())
	}
}

func TestLoadOfAPartOfTheText(t *testing.T) {
	whole := laid(ordinary())
	for n := range len(sign) {
		wantNoLoad(t, newHome(t, sign[:n]), api.ErrNone)
		wantNoLoad(t, newHome(t, sign[:n]+whole[n+1:]), api.ErrNone)
		wantNoLoad(t, newHome(t, sign[:n]+strings.Repeat("\xff", api.SectorBytes-n)), api.ErrNone)
	}
}

func TestLoadOfAnotherText(t *testing.T) {
	rest := laid(ordinary())[len(sign):]
	texts := []string{
		"gharry1", "\x07gharry1", "\x00gharry1", "\x00\x00\x07gharry1", "\x07\x00gharry1",
		"\x00\x06gharry1", "\x00\x08gharry1", "\x00\x08gharry1\x00", "\x00\x08gharry11", "\x01\x07gharry1",
		"\xff\xffgharry1", "\x00\x00gharry1", "\x00\x06gharry", "\x00\x05harry", "\x00\x07gharry0", "\x00\x07gharry2",
		"\x00\x07Gharry1", "\x00\x07GHARRY1", "\x00\x071yrrahg", "\x00\x07arbiter", "\x00\x07\x00\x00\x00\x00\x00\x00\x00",
	}
	for _, s := range texts {
		wantNoLoad(t, newHome(t, s), api.ErrNone)
		wantNoLoad(t, newHome(t, (s + rest)[:min(len(s+rest), api.SectorBytes)]), api.ErrNone)
	}
	// Each byte of the text turned to each other one.
	for i := range sign {
		for turn := 1; turn < 256; turn++ {
			bytes := []byte(laid(ordinary()))
			bytes[i] ^= byte(turn)
			wantNoLoad(t, newHome(t, string(bytes)), api.ErrNone)
		}
	}
}

func TestLoadLooksAtTheFirstSectorAlone(t *testing.T) {
	d := newDisk(t, 5)
	for i := 1; i < 5; i++ {
		put(t, d, i, laid(ordinary()))
	}
	wantNoLoad(t, d, api.ErrNone)
	save(t, d, greatest())
	wantLoad(t, d, greatest())
}

func TestLoadTellsTheDisksErrors(t *testing.T) {
	wantNoLoad(t, nil, api.ErrState)
	wantNoLoad(t, new(disk.Disk), api.ErrState)
	for _, bytes := range []string{"", laid(ordinary())} {
		d := newHome(t, bytes)
		wantErr(t, "Crash", d.Crash(0), api.OK)
		wantNoLoad(t, d, api.ErrDown)
		if d.Up() {
			t.Error("Load let the power on")
		}
	}
}

// Promise 9.1: Start.

func TestStartIsOneMore(t *testing.T) {
	for _, b := range many() {
		if b.Boot == maxBoot {
			continue
		}
		d := newHome(t, laid(b))
		b.Boot++
		wantStart(t, d, b)
		wantActs(t, d, 4)
		wantSector(t, d, 0, laid(b))
		lose(t, d, 0)
		wantLoad(t, d, b)
	}
}

func TestStartAgainAndAgain(t *testing.T) {
	d := newHome(t, laid(ordinary()))
	b := ordinary()
	for range 1000 {
		b.Boot++
		wantStart(t, d, b)
		wantLoad(t, d, b)
	}
}

func TestStartBehindASave(t *testing.T) {
	d := newDisk(t, 2)
	r := rand.New(rand.NewSource(92))
	for range 300 {
		b := random(r)
		b.Boot /= 2
		save(t, d, b)
		for range 3 {
			b.Boot++
			wantStart(t, d, b)
		}
	}
}

func TestStartSavesAllOfTheSector(t *testing.T) {
	d := newHome(t, laid(ordinary())[:used]+strings.Repeat("x", api.SectorBytes-used))
	b := ordinary()
	b.Boot++
	wantStart(t, d, b)
	wantSector(t, d, 0, laid(b))
}

func TestStartAtTheGreatestBoot(t *testing.T) {
	for _, b := range many() {
		b.Boot = maxBoot - 1
		d := newHome(t, laid(b))
		b.Boot = maxBoot
		wantStart(t, d, b)
		wantUnturned(t, d, func() {
			wantNoStart(t, d, api.ErrRange)
			wantNoStart(t, d, api.ErrRange)
		})
		wantLoad(t, d, b)
	}
}

func TestStartWhereNothingWasSaved(t *testing.T) {
	for _, bytes := range []string{"", sign[:8], "\x00\x07gharry2" + laid(ordinary())[len(sign):]} {
		d := newHome(t, bytes)
		wantUnturned(t, d, func() {
			wantNoStart(t, d, api.ErrNone)
		})
	}
}

func TestStartTellsTheDisksErrors(t *testing.T) {
	wantNoStart(t, nil, api.ErrState)
	wantNoStart(t, new(disk.Disk), api.ErrState)
	top := ordinary()
	top.Boot = maxBoot
	// The disk's error comes ahead of what its sector would have told.
	for _, bytes := range []string{"", laid(ordinary()), laid(top)} {
		d := newHome(t, bytes)
		wantErr(t, "Crash", d.Crash(0), api.OK)
		wantNoStart(t, d, api.ErrDown)
		if d.Up() {
			t.Error("Start let the power on")
		}
		wantActs(t, d, 2)
		powerOn(t, d)
		wantSector(t, d, 0, sector(bytes))
	}
}

// Promise 9.2.

func TestPlan(t *testing.T) {
	cases := []struct{ sectors, log, from, pages int }{
		{41, 20, 21, 5}, // the document's
		{1, 0, 1, 0},
		{2, 0, 1, 0},
		{3, 1, 2, 0},
		{4, 1, 2, 0},
		{5, 2, 3, 0},
		{7, 3, 4, 0},
		{8, 3, 4, 1}, // the first page
		{9, 4, 5, 1},
		{15, 7, 8, 1},
		{16, 7, 8, 2},
		{17, 8, 9, 2},
		{39, 19, 20, 4},
		{40, 19, 20, 5},
		{1591, 795, 796, 198},
		{1592, 795, 796, 199},
		{1599, 799, 800, 199},
		{1600, 799, 800, 200}, // just as many as there may be
		{1601, 800, 801, 200},
		{1607, 803, 804, 200},
		{1608, 803, 804, 200}, // a page more, if there were no limit
		{4096, 2047, 2048, 200},
		{api.MaxSectors - 1, 4095, 4096, 200},
		{api.MaxSectors, 4095, 4096, 200},
		{api.MaxSectors + 1, 4096, 4097, 200},
		{math.MaxInt - 1, 1<<62 - 2, 1<<62 - 1, 200},
		{math.MaxInt, 1<<62 - 1, 1 << 62, 200},
	}
	for _, c := range cases {
		if log, from, pages := base.Plan(c.sectors); log != c.log || from != c.from || pages != c.pages {
			t.Errorf("Plan(%d): %d, %d, %d; want %d, %d, %d", c.sectors, log, from, pages, c.log, c.from, c.pages)
		}
	}
}

// TestPlanGrows deals sectors out one by one: the first one to the base, then by turns
// to the pages and to the log.
func TestPlanGrows(t *testing.T) {
	log, others := 0, 0
	for sectors := 1; sectors <= api.MaxSectors+100; sectors++ {
		switch {
		case sectors == 1:
		case sectors%2 == 0:
			others++
		default:
			log++
		}
		pages := min(others/4, 200)
		if a, b, c := base.Plan(sectors); a != log || b != log+1 || c != pages {
			t.Fatalf("Plan(%d): %d, %d, %d; want %d, %d, %d", sectors, a, b, c, log, log+1, pages)
		}
	}
}

func TestPlanHasRoomOnItsDisk(t *testing.T) {
	for sectors := 1; sectors <= api.MaxSectors; sectors++ {
		log, from, pages := base.Plan(sectors)
		if log < 0 || pages < 0 || from < 1+log || from+4*pages > sectors {
			t.Fatalf("Plan(%d): %d, %d, %d", sectors, log, from, pages)
		}
	}
}

func TestPlanOfNoSectors(t *testing.T) {
	for _, sectors := range []int{0, -1, -2, -41, -1600, math.MinInt + 1, math.MinInt} {
		if a, b, c := base.Plan(sectors); a != 0 || b != 0 || c != 0 {
			t.Errorf("Plan(%d): %d, %d, %d; want noughts", sectors, a, b, c)
		}
	}
}

// Promise 9.3.

// loss is where the power goes within a Save: at its write, or at its sync, and which
// of the sectors that wait are kept.
type loss struct {
	act  int
	keep uint64
}

// losses are all of them, if so many sectors wait beside the first one.
func losses(beside int) []loss {
	var ways []loss
	for act := range 2 {
		for keep := range uint64(1) << (beside + 1) {
			ways = append(ways, loss{act, keep})
		}
		ways = append(ways, loss{act, all}, loss{act, all - 1})
	}
	return ways
}

// lasts tells whether what was written is there behind the loss: it waits at the sync
// alone, as the lowest sector, of which the keep's first bit tells.
func (l loss) lasts() bool { return l.act == 1 && l.keep&1 == 1 }

func TestLossWithinSave(t *testing.T) {
	bases := []base.Base{{}, ordinary(), greatest(), random(rand.New(rand.NewSource(93)))}
	for beside := range 4 {
		for _, l := range losses(beside) {
			for _, old := range bases {
				for _, young := range bases {
					d := newHome(t, laid(old))
					for i := range beside {
						put(t, d, 1+i, "waits")
					}
					wantErr(t, "Arm", d.Arm(l.act, l.keep), api.OK)
					wantErr(t, "Save", base.Save(d, young), api.ErrDown)
					if d.Up() || d.Downs() != 1 {
						t.Fatalf("power %v, which went %d times", d.Up(), d.Downs())
					}
					powerOn(t, d)
					want := old
					if l.lasts() {
						want = young
					}
					wantLoad(t, d, want)
					wantSector(t, d, 0, laid(want))
				}
			}
		}
	}
}

func TestLossWithinTheFirstSave(t *testing.T) {
	for _, l := range losses(0) {
		d := newDisk(t, 2)
		wantErr(t, "Arm", d.Arm(l.act, l.keep), api.OK)
		wantErr(t, "Save", base.Save(d, ordinary()), api.ErrDown)
		powerOn(t, d)
		if l.lasts() {
			wantLoad(t, d, ordinary())
		} else {
			wantNoLoad(t, d, api.ErrNone)
		}
	}
}

func TestNoLossWithinSave(t *testing.T) {
	d := newHome(t, laid(ordinary()))
	wantErr(t, "Arm", d.Arm(2, 0), api.OK)
	wantErr(t, "Save", base.Save(d, greatest()), api.OK)
	wantErr(t, "Write", d.Write(1, "x"), api.ErrDown)
	powerOn(t, d)
	wantLoad(t, d, greatest())
}

func TestLossWithinStart(t *testing.T) {
	for beside := range 4 {
		for _, l := range losses(beside) {
			d := newHome(t, laid(ordinary()))
			for i := range beside {
				put(t, d, 1+i, "waits")
			}
			wantErr(t, "Arm", d.Arm(l.act, l.keep), api.OK)
			wantNoStart(t, d, api.ErrDown)
			powerOn(t, d)
			want := ordinary()
			if l.lasts() {
				want.Boot++
			}
			wantLoad(t, d, want)
			want.Boot++
			wantStart(t, d, want)
		}
	}
}

// TestNoTwoStartsTellOneBoot goes through every way in which six Starts can go: well,
// well with a loss behind, or with a loss at each act and each choice of what is kept.
func TestNoTwoStartsTellOneBoot(t *testing.T) {
	const starts, ways = 6, 6
	for which := range 46656 { // ways to the power of starts
		d := newHome(t, laid(ordinary()))
		told := ordinary().Boot
		for range starts {
			way := which % ways
			which /= ways
			if way < 4 {
				wantErr(t, "Arm", d.Arm(way/2, uint64(way%2)), api.OK)
			}
			b, err := base.Start(d)
			if (err == api.OK) != (way >= 4) {
				t.Fatalf("way %d: error %d", way, err)
			}
			if err == api.OK && b.Boot <= told {
				t.Fatalf("Boot %d told behind %d", b.Boot, told)
			}
			if err == api.OK {
				told = b.Boot
			}
			if way == 5 {
				wantErr(t, "Crash", d.Crash(0), api.OK)
			}
			if !d.Up() {
				powerOn(t, d)
			}
		}
	}
}

// TestStepsAgainstAPlainBase does steps of all kinds on a disk beside a model of two
// lines: the base that is there, and the greatest Boot that was told.
func TestStepsAgainstAPlainBase(t *testing.T) {
	for seed := range int64(200) {
		r := rand.New(rand.NewSource(seed))
		d := newDisk(t, 3)
		there := ordinary()
		save(t, d, there)
		told := there.Boot
		for range 100 {
			next := there
			var err api.Errno
			l := loss{act: r.Intn(4), keep: r.Uint64()}
			wantErr(t, "Arm", d.Arm(l.act, l.keep), api.OK)
			if r.Intn(3) == 0 {
				// What a node saves between two Starts leaves its Boot as it is.
				next = random(r)
				next.Boot = there.Boot
				err = base.Save(d, next)
			} else {
				next.Boot++
				var b base.Base
				b, err = base.Start(d)
				if err == api.OK && (b != next || b.Boot <= told) {
					t.Fatalf("Start: %+v behind Boot %d; want %+v", b, told, next)
				}
				told = max(told, b.Boot)
			}
			d.Calm()
			if (err == api.OK) != (l.act > 1) || (err != api.OK && err != api.ErrDown) {
				t.Fatalf("loss at act %d: error %d", l.act, err)
			}
			if err == api.OK || l.lasts() {
				there = next
			}
			if !d.Up() {
				powerOn(t, d)
			}
			wantLoad(t, d, there)
			if r.Intn(4) == 0 {
				lose(t, d, r.Uint64())
				wantLoad(t, d, there)
			}
		}
	}
}
