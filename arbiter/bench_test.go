package arbiter_test

import (
	"math"
	"slices"
	"strings"
	"testing"

	"gharry/api"
	"gharry/arbiter"
	"gharry/disk"
)

const (
	all      = math.MaxUint64
	sign     = "\x00\x07arbiter" // the text, laid
	used     = 14                // bytes of the sector that a register has
	maxEpoch = 1<<31 - 1
)

// grant is an epoch, and whose it is.
type grant struct{ epoch, holder int }

// epochs are some of those that have room in a register.
func epochs() []int {
	return []int{0, 1, 2, 127, 128, 255, 256, 257, 65535, 65536, 1<<24 - 1, 1 << 24, 1<<30 + 7, maxEpoch - 1, maxEpoch}
}

// grants are registers of all kinds.
func grants() []grant {
	var gs []grant
	for _, e := range epochs() {
		gs = append(gs, grant{e, 0}, grant{e, 1})
	}
	return gs
}

func noNodes() []int {
	return []int{-1, 2, 3, -2, 255, 256, 257, api.Arbiter, 1 << 32, 1<<32 + 1, math.MinInt, math.MaxInt}
}

func noEpochs() []int {
	return []int{-1, -2, maxEpoch + 1, 1<<32 - 1, 1 << 32, 1<<32 + 1, math.MinInt, math.MaxInt}
}

// sector is a whole sector that begins with a text, with noughts behind.
func sector(s string) string { return s + strings.Repeat("\x00", api.SectorBytes-len(s)) }

// laid is the sector of a register, written by hand.
func laid(g grant) string {
	s := []byte(sign)
	for i := 3; i >= 0; i-- {
		s = append(s, byte(g.epoch>>(8*i)))
	}
	return sector(string(append(s, byte(g.holder))))
}

func newDisk(t *testing.T, sectors int) *disk.Disk {
	t.Helper()
	d, err := disk.New(sectors)
	if err != api.OK {
		t.Fatalf("disk.New(%d): error %d", sectors, err)
	}
	return d
}

// newHome is a disk whose first sector has these bytes, which last.
func newHome(t *testing.T, bytes string) *disk.Disk {
	t.Helper()
	d := newDisk(t, 5)
	put(t, d, 0, bytes)
	wantErr(t, "Sync", d.Sync(), api.OK)
	return d
}

// newArbiter is a disk with a register, and its arbiter.
func newArbiter(t *testing.T, g grant) (*disk.Disk, *arbiter.Arbiter) {
	t.Helper()
	d := newDisk(t, 5)
	format(t, d, g)
	return d, start(t, d)
}

func put(t *testing.T, d *disk.Disk, i int, bytes string) {
	t.Helper()
	if err := d.Write(i, bytes); err != api.OK {
		t.Fatalf("disk: Write(%d): error %d", i, err)
	}
}

func format(t *testing.T, d *disk.Disk, g grant) {
	t.Helper()
	if err := arbiter.Format(d, g.epoch, g.holder); err != api.OK {
		t.Fatalf("Format(%d, %d): error %d", g.epoch, g.holder, err)
	}
}

func start(t *testing.T, d *disk.Disk) *arbiter.Arbiter {
	t.Helper()
	a, err := arbiter.Start(d)
	if a == nil || err != api.OK {
		t.Fatalf("Start: %v, error %d", a, err)
	}
	return a
}

func wantErr(t *testing.T, what string, got, want api.Errno) {
	t.Helper()
	if got != want {
		t.Errorf("%s: error %d, want %d", what, got, want)
	}
}

func wantNoStart(t *testing.T, d *disk.Disk, want api.Errno) {
	t.Helper()
	if a, err := arbiter.Start(d); a != nil || err != want {
		t.Errorf("Start: %v, error %d; want nil, error %d", a, err, want)
	}
}

func wantLast(t *testing.T, a *arbiter.Arbiter, want grant) {
	t.Helper()
	if epoch, holder := a.Last(); (grant{epoch, holder}) != want {
		t.Errorf("Last: %d, %d; want %v", epoch, holder, want)
	}
}

func wantUp(t *testing.T, a *arbiter.Arbiter, want bool) {
	t.Helper()
	if a.Up() != want {
		t.Errorf("Up: %t", !want)
	}
}

func wantClaim(t *testing.T, a *arbiter.Arbiter, node, epoch int, want grant) {
	t.Helper()
	if e, holder, err := a.Claim(node, epoch); (grant{e, holder}) != want || err != api.OK {
		t.Errorf("Claim(%d, %d): %d, %d, error %d; want %v", node, epoch, e, holder, err, want)
	}
}

func wantNoClaim(t *testing.T, a *arbiter.Arbiter, node, epoch int, want api.Errno) {
	t.Helper()
	if e, holder, err := a.Claim(node, epoch); e != 0 || holder != 0 || err != want {
		t.Errorf("Claim(%d, %d): %d, %d, error %d; want noughts, error %d", node, epoch, e, holder, err, want)
	}
}

func wantSector(t *testing.T, d *disk.Disk, i int, want string) {
	t.Helper()
	if got, err := d.Read(i); got != want || err != api.OK {
		t.Errorf("sector %d: error %d\n got %q\nwant %q", i, err, got, want)
	}
}

func wantActs(t *testing.T, d *disk.Disk, acts int, waiting ...int) {
	t.Helper()
	if got := d.Waiting(); d.Acts() != acts || !slices.Equal(got, waiting) {
		t.Errorf("%d acts, waiting %v; want %d, %v", d.Acts(), got, acts, waiting)
	}
}

func powerOff(t *testing.T, d *disk.Disk, keep uint64) {
	t.Helper()
	if err := d.Crash(keep); err != api.OK {
		t.Fatalf("disk: Crash: error %d", err)
	}
}

func powerOn(t *testing.T, d *disk.Disk) {
	t.Helper()
	if err := d.Start(); err != api.OK {
		t.Fatalf("disk: Start: error %d", err)
	}
}

// lose lets the power go, and on again.
func lose(t *testing.T, d *disk.Disk, keep uint64) {
	t.Helper()
	powerOff(t, d, keep)
	powerOn(t, d)
}

func arm(t *testing.T, d *disk.Disk, acts int, keep uint64) {
	t.Helper()
	if err := d.Arm(acts, keep); err != api.OK {
		t.Fatalf("disk: Arm(%d): error %d", acts, err)
	}
}

// wantUnturned does a call on a disk that is armed at its next act, and on which
// something waits: there may be no act, and all is as it was.
func wantUnturned(t *testing.T, d *disk.Disk, call func()) {
	t.Helper()
	put(t, d, 3, "waits")
	before, acts, downs := image(t, d), d.Acts(), d.Downs()
	arm(t, d, 0, all)
	call()
	if d.Downs() != downs {
		t.Fatal("an act of the disk, and none is due")
	}
	d.Calm()
	wantActs(t, d, acts, 3)
	if after := image(t, d); !slices.Equal(before, after) {
		t.Errorf("sectors turned\n from %q\n   to %q", before, after)
	}
}

func image(t *testing.T, d *disk.Disk) []string {
	t.Helper()
	var sectors []string
	for i := range d.Size() {
		s, err := d.Read(i)
		if err != api.OK {
			t.Fatalf("disk: Read(%d): error %d", i, err)
		}
		sectors = append(sectors, s)
	}
	return sectors
}
