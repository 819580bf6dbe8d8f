package disk_test

import (
	"math"
	"math/rand"
	"slices"
	"strings"
	"testing"

	"gharry/api"
	"gharry/disk"
)

const all = math.MaxUint64

func made(t *testing.T, sectors int) *disk.Disk {
	t.Helper()
	d, err := disk.New(sectors)
	if d == nil || err != api.OK {
		t.Fatalf("New(%d): %v, error %d", sectors, d, err)
	}
	return d
}

func padded(s string) string { return s + strings.Repeat("\x00", api.SectorBytes-len(s)) }

func wantErr(t *testing.T, what string, got, want api.Errno) {
	t.Helper()
	if got != want {
		t.Errorf("%s: error %d, want %d", what, got, want)
	}
}

func write(t *testing.T, d *disk.Disk, i int, s string) {
	t.Helper()
	if err := d.Write(i, s); err != api.OK {
		t.Fatalf("Write(%d, %q): error %d", i, s, err)
	}
}

func sync(t *testing.T, d *disk.Disk) {
	t.Helper()
	if err := d.Sync(); err != api.OK {
		t.Fatalf("Sync: error %d", err)
	}
}

// lose lets the power go, and on again.
func lose(t *testing.T, d *disk.Disk, keep uint64) {
	t.Helper()
	if err := d.Crash(keep); err != api.OK {
		t.Fatalf("Crash(%x): error %d", keep, err)
	}
	start(t, d)
}

func start(t *testing.T, d *disk.Disk) {
	t.Helper()
	if err := d.Start(); err != api.OK || !d.Up() {
		t.Fatalf("Start: error %d, up %v", err, d.Up())
	}
}

func wantSector(t *testing.T, d *disk.Disk, i int, s string) {
	t.Helper()
	got, err := d.Read(i)
	if got != padded(s) || err != api.OK {
		t.Errorf("Read(%d): %q, error %d; want %q and noughts", i, got, err, s)
	}
}

func wantNoRead(t *testing.T, d *disk.Disk, i int, want api.Errno) {
	t.Helper()
	if got, err := d.Read(i); got != "" || err != want {
		t.Errorf("Read(%d): %q, error %d; want none, error %d", i, got, err, want)
	}
}

func wantWaiting(t *testing.T, d *disk.Disk, want ...int) {
	t.Helper()
	if got := d.Waiting(); !slices.Equal(got, want) {
		t.Errorf("Waiting: %v, want %v", got, want)
	}
}

func wantCounts(t *testing.T, d *disk.Disk, up bool, acts, downs int) {
	t.Helper()
	if d.Up() != up || d.Acts() != acts || d.Downs() != downs {
		t.Errorf("up %v, %d acts, %d downs; want %v, %d, %d", d.Up(), d.Acts(), d.Downs(), up, acts, downs)
	}
}

// Promise 3.1.

func TestNew(t *testing.T) {
	for _, n := range []int{1, 2, 64, api.MaxSectors} {
		d := made(t, n)
		if d.Size() != n {
			t.Errorf("New(%d): size %d", n, d.Size())
		}
		wantCounts(t, d, true, 0, 0)
		wantWaiting(t, d)
		for i := range n {
			wantSector(t, d, i, "")
		}
	}
}

func TestNewRefuses(t *testing.T) {
	for _, n := range []int{0, -1, api.MaxSectors + 1, math.MinInt, math.MaxInt} {
		if d, err := disk.New(n); d != nil || err != api.ErrArg {
			t.Errorf("New(%d): %v, error %d; want none, error %d", n, d, err, api.ErrArg)
		}
	}
}

func TestWriteIsReadAheadOfSync(t *testing.T) {
	d := made(t, 4)
	write(t, d, 2, "c")
	wantSector(t, d, 2, "c")
	wantWaiting(t, d, 2)
	sync(t, d)
	wantSector(t, d, 2, "c")
	wantWaiting(t, d)
	for _, i := range []int{0, 1, 3} {
		wantSector(t, d, i, "")
	}
}

func TestWriteLengths(t *testing.T) {
	d := made(t, 1)
	for n := range api.SectorBytes + 1 {
		s := strings.Repeat("\xff", n)
		write(t, d, 0, strings.Repeat("x", api.SectorBytes))
		write(t, d, 0, s)
		wantSector(t, d, 0, s)
	}
	write(t, d, 0, "")
	wantSector(t, d, 0, "")
}

func TestWriteTooLong(t *testing.T) {
	d := made(t, 2)
	write(t, d, 1, "b")
	for _, n := range []int{api.SectorBytes + 1, api.SectorBytes + 2, 1 << 16} {
		wantErr(t, "a long text", d.Write(0, strings.Repeat("x", n)), api.ErrLong)
		wantErr(t, "a long text", d.Write(1, strings.Repeat("x", n)), api.ErrLong)
	}
	wantSector(t, d, 0, "")
	wantSector(t, d, 1, "b")
	wantWaiting(t, d, 1)
	wantCounts(t, d, true, 1, 0)
}

func TestSectorsAtTheEnds(t *testing.T) {
	for _, n := range []int{1, 2, api.MaxSectors} {
		d := made(t, n)
		write(t, d, n-1, "last")
		wantSector(t, d, n-1, "last")
		write(t, d, 0, "first")
		wantSector(t, d, 0, "first")
		for _, i := range []int{-1, n, n + 1, math.MinInt, math.MaxInt} {
			wantNoRead(t, d, i, api.ErrRange)
			wantErr(t, "a sector that is none", d.Write(i, "x"), api.ErrRange)
			wantErr(t, "a sector that is none, a long text", d.Write(i, strings.Repeat("x", 65)), api.ErrRange)
		}
		wantCounts(t, d, true, 2, 0)
	}
}

func TestWrittenTwiceWaitsOnce(t *testing.T) {
	d := made(t, 4)
	write(t, d, 3, "old")
	sync(t, d)
	write(t, d, 3, "one")
	write(t, d, 3, "two")
	wantSector(t, d, 3, "two")
	wantWaiting(t, d, 3)
	wantCounts(t, d, true, 4, 0)
	lose(t, d, 1)
	wantSector(t, d, 3, "two")
	write(t, d, 3, "six")
	write(t, d, 3, "ten")
	lose(t, d, 0)
	wantSector(t, d, 3, "two")
}

func TestTheSameTextWaitsToo(t *testing.T) {
	d := made(t, 2)
	write(t, d, 0, "")
	wantWaiting(t, d, 0)
	write(t, d, 1, "a")
	sync(t, d)
	write(t, d, 1, "a")
	wantWaiting(t, d, 1)
}

func TestSyncedLasts(t *testing.T) {
	d := made(t, 8)
	for i := range 8 {
		write(t, d, i, strings.Repeat("s", i))
	}
	sync(t, d)
	lose(t, d, 0)
	for i := range 8 {
		wantSector(t, d, i, strings.Repeat("s", i))
	}
}

func TestWaitingRises(t *testing.T) {
	d := made(t, 200)
	order := rand.New(rand.NewSource(3)).Perm(200)
	for n, i := range order {
		write(t, d, i, "w")
		want := slices.Sorted(slices.Values(order[:n+1]))
		wantWaiting(t, d, want...)
	}
}

func TestWaitingIsNewMemory(t *testing.T) {
	d := made(t, 4)
	write(t, d, 1, "b")
	write(t, d, 2, "c")
	told := d.Waiting()
	told[0], told[1] = 9, 9
	wantWaiting(t, d, 1, 2)
	told = d.Waiting()
	sync(t, d)
	if !slices.Equal(told, []int{1, 2}) {
		t.Errorf("what was told is %v behind a sync", told)
	}
}

func TestReadIsNotTurnedLater(t *testing.T) {
	d := made(t, 1)
	write(t, d, 0, "a")
	waits, _ := d.Read(0)
	sync(t, d)
	lasts, _ := d.Read(0)
	write(t, d, 0, "b")
	sync(t, d)
	if waits != padded("a") || lasts != padded("a") {
		t.Errorf("what was read is %q and %q behind a write", waits, lasts)
	}
}

func TestReadIsNoAct(t *testing.T) {
	d := made(t, 1)
	wantErr(t, "Arm", d.Arm(0, 0), api.OK)
	for range 3 {
		wantSector(t, d, 0, "")
		wantWaiting(t, d)
	}
	wantCounts(t, d, true, 0, 0)
}

func TestDisksAreTheirOwn(t *testing.T) {
	a, b := made(t, 2), made(t, 2)
	write(t, a, 0, "a")
	sync(t, a)
	wantSector(t, b, 0, "")
	wantErr(t, "Crash", a.Crash(0), api.OK)
	wantCounts(t, b, true, 0, 0)
}

// Promise 3.2.

func TestExample(t *testing.T) {
	d := made(t, 1)
	write(t, d, 0, "a")
	lose(t, d, 0)
	wantSector(t, d, 0, "")
	write(t, d, 0, "a")
	lose(t, d, 1)
	wantSector(t, d, 0, "a")
}

func TestCrashLetsGo(t *testing.T) {
	d := made(t, 2)
	write(t, d, 1, "a")
	wantErr(t, "Crash", d.Crash(0), api.OK)
	wantCounts(t, d, false, 1, 1)
	wantWaiting(t, d)
	if d.Size() != 2 {
		t.Errorf("size %d while the power is off", d.Size())
	}
	start(t, d)
	wantWaiting(t, d)
	wantCounts(t, d, true, 1, 1)
	lose(t, d, all)
	wantSector(t, d, 1, "")
	wantCounts(t, d, true, 1, 2)
}

func TestWhatLastsBehindACrashLastsOn(t *testing.T) {
	d := made(t, 2)
	write(t, d, 1, "a")
	lose(t, d, 1)
	lose(t, d, 0)
	wantSector(t, d, 1, "a")
}

// The k-th waiting sector counts, not the sector's own number, nor when it was written.
func TestKeepGoesByRank(t *testing.T) {
	places := []int{70, 5, 9, 64, 63}
	for keep := range uint64(1 << 5) {
		d := made(t, 100)
		for _, i := range places {
			write(t, d, i, "old")
		}
		sync(t, d)
		for _, i := range places {
			write(t, d, i, "new")
		}
		lose(t, d, keep)
		for k, i := range slices.Sorted(slices.Values(places)) {
			want := "old"
			if keep&(1<<k) != 0 {
				want = "new"
			}
			wantSector(t, d, i, want)
		}
	}
}

func TestKeepGoesRoundBehind64(t *testing.T) {
	for _, keep := range []uint64{0, 1, 2, 1 << 62, 1 << 63, 1<<63 | 1, 0x0123456789abcdef, all} {
		d := made(t, 300)
		for k := range 150 {
			write(t, d, 2*k, "x")
		}
		lose(t, d, keep)
		for k := range 150 {
			want := ""
			if keep&(1<<(k%64)) != 0 {
				want = "x"
			}
			wantSector(t, d, 2*k, want)
			wantSector(t, d, 2*k+1, "")
		}
	}
}

func TestAllSectorsWaitWhenThePowerGoes(t *testing.T) {
	d := made(t, api.MaxSectors)
	for i := range api.MaxSectors {
		write(t, d, i, "x")
	}
	lose(t, d, 1<<63)
	for i := range api.MaxSectors {
		want := ""
		if i%64 == 63 {
			want = "x"
		}
		wantSector(t, d, i, want)
	}
}

func TestArmGoesAtAWrite(t *testing.T) {
	for acts := range 4 {
		d := made(t, 5)
		wantErr(t, "Arm", d.Arm(acts, all), api.OK)
		for i := range acts {
			write(t, d, i, "w")
		}
		wantCounts(t, d, true, acts, 0)
		wantErr(t, "the act behind", d.Write(acts, "w"), api.ErrDown)
		wantCounts(t, d, false, acts, 1)
		start(t, d)
		wantSector(t, d, acts, "")
		for i := range acts {
			wantSector(t, d, i, "w")
		}
	}
}

func TestArmGoesAtASync(t *testing.T) {
	d := made(t, 4)
	wantErr(t, "Arm", d.Arm(3, 2), api.OK)
	write(t, d, 1, "a")
	write(t, d, 3, "b")
	write(t, d, 2, "c")
	wantErr(t, "Sync", d.Sync(), api.ErrDown)
	wantCounts(t, d, false, 3, 1)
	wantWaiting(t, d)
	start(t, d)
	wantSector(t, d, 1, "")
	wantSector(t, d, 2, "c")
	wantSector(t, d, 3, "")
}

func TestArmCountsSyncs(t *testing.T) {
	d := made(t, 1)
	wantErr(t, "Arm", d.Arm(2, 0), api.OK)
	sync(t, d)
	sync(t, d)
	wantCounts(t, d, true, 2, 0)
	wantErr(t, "Sync", d.Sync(), api.ErrDown)
	wantCounts(t, d, false, 2, 1)
}

// The sector that the act would have written waits as it was written ahead.
func TestArmKeepsTheWriteAhead(t *testing.T) {
	d := made(t, 1)
	wantErr(t, "Arm", d.Arm(1, 1), api.OK)
	write(t, d, 0, "one")
	wantErr(t, "Write", d.Write(0, "two"), api.ErrDown)
	start(t, d)
	wantSector(t, d, 0, "one")
}

func TestArmGoesOnce(t *testing.T) {
	d := made(t, 1)
	wantErr(t, "Arm", d.Arm(0, 0), api.OK)
	wantErr(t, "Write", d.Write(0, "a"), api.ErrDown)
	start(t, d)
	write(t, d, 0, "b")
	sync(t, d)
	wantCounts(t, d, true, 2, 1)
}

func TestRefusedIsNoAct(t *testing.T) {
	d := made(t, 2)
	write(t, d, 1, "b")
	wantErr(t, "Arm", d.Arm(0, 1), api.OK)
	wantErr(t, "Write", d.Write(2, "x"), api.ErrRange)
	wantErr(t, "Write", d.Write(-1, "x"), api.ErrRange)
	wantErr(t, "Write", d.Write(0, strings.Repeat("x", 65)), api.ErrLong)
	wantNoRead(t, d, 2, api.ErrRange)
	wantErr(t, "Start", d.Start(), api.ErrThere)
	wantCounts(t, d, true, 1, 0)
	wantErr(t, "Write", d.Write(0, "x"), api.ErrDown)
	wantCounts(t, d, false, 1, 1)

	start(t, d)
	wantErr(t, "Arm", d.Arm(1, 0), api.OK)
	wantErr(t, "Write", d.Write(2, "x"), api.ErrRange)
	wantErr(t, "Write", d.Write(0, strings.Repeat("x", 65)), api.ErrLong)
	write(t, d, 0, "x")
	wantErr(t, "Write", d.Write(0, "x"), api.ErrDown)
}

func TestLaterArmTakesThePlace(t *testing.T) {
	d := made(t, 2)
	wantErr(t, "Arm", d.Arm(0, 0), api.OK)
	wantErr(t, "Arm", d.Arm(2, 1), api.OK)
	write(t, d, 0, "a")
	write(t, d, 1, "b")
	wantErr(t, "Sync", d.Sync(), api.ErrDown)
	start(t, d)
	wantSector(t, d, 0, "a")
	wantSector(t, d, 1, "")

	wantErr(t, "Arm", d.Arm(5, 1), api.OK)
	write(t, d, 1, "b")
	wantErr(t, "Arm", d.Arm(0, 0), api.OK)
	wantErr(t, "Sync", d.Sync(), api.ErrDown)
	start(t, d)
	wantSector(t, d, 1, "")
}

func TestArmRefuses(t *testing.T) {
	d := made(t, 1)
	wantErr(t, "Arm", d.Arm(1, 1), api.OK)
	wantErr(t, "Arm(-1)", d.Arm(-1, 0), api.ErrArg)
	wantErr(t, "Arm(least)", d.Arm(math.MinInt, 0), api.ErrArg)
	write(t, d, 0, "a")
	wantErr(t, "Write", d.Write(0, "b"), api.ErrDown)
	start(t, d)
	wantSector(t, d, 0, "a")
}

func TestArmOfVeryMany(t *testing.T) {
	d := made(t, 1)
	wantErr(t, "Arm", d.Arm(math.MaxInt, 0), api.OK)
	for range 1000 {
		write(t, d, 0, "a")
	}
	sync(t, d)
	wantCounts(t, d, true, 1001, 0)
}

func TestCalm(t *testing.T) {
	d := made(t, 2)
	d.Calm()
	wantErr(t, "Arm", d.Arm(0, 0), api.OK)
	d.Calm()
	write(t, d, 0, "a")
	sync(t, d)
	wantErr(t, "Arm", d.Arm(1, 0), api.OK)
	write(t, d, 0, "b")
	d.Calm()
	wantWaiting(t, d, 0)
	sync(t, d)
	wantCounts(t, d, true, 4, 0)
	wantSector(t, d, 0, "b")
}

func TestCrashTakesTheArm(t *testing.T) {
	d := made(t, 2)
	write(t, d, 0, "a")
	wantErr(t, "Arm", d.Arm(0, all), api.OK)
	lose(t, d, 0)
	wantSector(t, d, 0, "")
	write(t, d, 0, "b")
	sync(t, d)
	wantCounts(t, d, true, 3, 1)
}

func TestWhileThePowerIsOff(t *testing.T) {
	d := made(t, 2)
	write(t, d, 0, "a")
	sync(t, d)
	write(t, d, 0, "b")
	wantErr(t, "Crash", d.Crash(0), api.OK)
	for _, i := range []int{0, 1, -1, 2, math.MinInt, math.MaxInt} {
		wantNoRead(t, d, i, api.ErrDown)
		wantErr(t, "Write", d.Write(i, "x"), api.ErrDown)
		wantErr(t, "Write", d.Write(i, strings.Repeat("x", 65)), api.ErrDown)
	}
	wantErr(t, "Sync", d.Sync(), api.ErrDown)
	wantErr(t, "Crash", d.Crash(all), api.ErrDown)
	wantErr(t, "Arm", d.Arm(0, 0), api.ErrDown)
	wantErr(t, "Arm", d.Arm(-1, 0), api.ErrDown)
	d.Calm()
	wantWaiting(t, d)
	wantCounts(t, d, false, 3, 1)
	start(t, d)
	wantSector(t, d, 0, "a")
	wantSector(t, d, 1, "")
	write(t, d, 1, "c")
	wantCounts(t, d, true, 4, 1)
}

func TestStartWhileThePowerIsOn(t *testing.T) {
	d := made(t, 1)
	wantErr(t, "Start", d.Start(), api.ErrThere)
	write(t, d, 0, "a")
	wantErr(t, "Arm", d.Arm(0, 1), api.OK)
	wantErr(t, "Start", d.Start(), api.ErrThere)
	wantWaiting(t, d, 0)
	wantErr(t, "Sync", d.Sync(), api.ErrDown)
	start(t, d)
	wantErr(t, "Start", d.Start(), api.ErrThere)
	wantSector(t, d, 0, "a")
}

// Promise 3.3.

func TestNoDisk(t *testing.T) {
	for name, d := range map[string]*disk.Disk{"nil": nil, "zero": {}} {
		for range 2 {
			for _, i := range []int{0, 1, -1, math.MaxInt} {
				wantNoRead(t, d, i, api.ErrState)
				wantErr(t, name+" Write", d.Write(i, "x"), api.ErrState)
				wantErr(t, name+" Write", d.Write(i, strings.Repeat("x", 65)), api.ErrState)
			}
			wantErr(t, name+" Sync", d.Sync(), api.ErrState)
			wantErr(t, name+" Crash", d.Crash(1), api.ErrState)
			wantErr(t, name+" Arm", d.Arm(0, 0), api.ErrState)
			wantErr(t, name+" Arm", d.Arm(-1, 0), api.ErrState)
			d.Calm()
			wantErr(t, name+" Start", d.Start(), api.ErrState)
			wantCounts(t, d, false, 0, 0)
			wantWaiting(t, d)
			if d.Size() != 0 {
				t.Errorf("%s: size %d", name, d.Size())
			}
		}
	}
}

// All of it, against a plain disk.

// plain has for each sector how it lasts, how it was written last, and whether it waits.
type plain struct {
	lasts, now []string
	waits      []bool
	off, armed bool
	left       int
	keep       uint64
	acts       int
	downs      int
}

func (p *plain) loss(keep uint64) {
	k := 0
	for i := range p.now {
		if !p.waits[i] {
			continue
		}
		if keep&(1<<(k%64)) != 0 {
			p.lasts[i] = p.now[i]
		}
		p.now[i], p.waits[i] = p.lasts[i], false
		k++
	}
	p.off, p.armed = true, false
	p.downs++
}

func (p *plain) goes(refused api.Errno) api.Errno {
	if refused != api.OK {
		return refused
	}
	if p.armed && p.left == 0 {
		p.loss(p.keep)
		return api.ErrDown
	}
	p.left--
	p.acts++
	return api.OK
}

func (p *plain) refuses(i, length int) api.Errno {
	switch {
	case p.off:
		return api.ErrDown
	case i < 0 || i >= len(p.now):
		return api.ErrRange
	case length > 64:
		return api.ErrLong
	}
	return api.OK
}

func (p *plain) write(i int, s string) api.Errno {
	err := p.goes(p.refuses(i, len(s)))
	if err == api.OK {
		p.now[i], p.waits[i] = padded(s), true
	}
	return err
}

func (p *plain) sync() api.Errno {
	err := p.goes(p.refuses(0, 0))
	if err == api.OK {
		copy(p.lasts, p.now)
		clear(p.waits)
	}
	return err
}

func (p *plain) arm(acts int, keep uint64) api.Errno {
	if p.off {
		return api.ErrDown
	}
	if acts < 0 {
		return api.ErrArg
	}
	p.armed, p.left, p.keep = true, acts, keep
	return api.OK
}

func (p *plain) start() api.Errno {
	if !p.off {
		return api.ErrThere
	}
	p.off = false
	return api.OK
}

func newPlain(n int) *plain {
	p := &plain{lasts: make([]string, n), now: make([]string, n), waits: make([]bool, n)}
	for i := range n {
		p.lasts[i], p.now[i] = padded(""), padded("")
	}
	return p
}

func step(t *testing.T, r *rand.Rand, d *disk.Disk, p *plain) {
	t.Helper()
	i, keep, acts := r.Intn(d.Size()+2)-1, r.Uint64(), r.Intn(40)-2
	s := strings.Repeat(string(rune('a'+r.Intn(26))), r.Intn(66))
	switch n := r.Intn(100); {
	case n < 80:
		wantErr(t, "Write", d.Write(i, s), p.write(i, s))
	case n < 83:
		wantErr(t, "Sync", d.Sync(), p.sync())
	case n < 84 && p.off:
		wantErr(t, "Crash", d.Crash(keep), api.ErrDown)
	case n < 84:
		p.loss(keep)
		wantErr(t, "Crash", d.Crash(keep), api.OK)
	case n < 86:
		wantErr(t, "Arm", d.Arm(acts, keep), p.arm(acts, keep))
	case n < 87:
		p.armed = false
		d.Calm()
	default:
		wantErr(t, "Start", d.Start(), p.start())
	}
}

func TestManyStepsAgainstAPlainDisk(t *testing.T) {
	for seed := range int64(60) {
		r := rand.New(rand.NewSource(seed))
		n := 1 + r.Intn(150)
		d, p := made(t, n), newPlain(n)
		for range 800 {
			step(t, r, d, p)
			wantCounts(t, d, !p.off, p.acts, p.downs)
			wantState(t, d, p)
			if t.Failed() {
				t.Fatalf("seed %d", seed)
			}
		}
	}
}

func wantState(t *testing.T, d *disk.Disk, p *plain) {
	t.Helper()
	var waiting []int
	for i := range p.now {
		if p.waits[i] {
			waiting = append(waiting, i)
		}
		if p.off {
			wantNoRead(t, d, i, api.ErrDown)
		} else if got, err := d.Read(i); got != p.now[i] || err != api.OK {
			t.Errorf("Read(%d): %q, error %d; want %q", i, got, err, p.now[i])
		}
	}
	wantWaiting(t, d, waiting...)
}
