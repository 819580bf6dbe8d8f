package arbiter_test

import (
	"math"
	"math/rand"
	"strings"
	"testing"

	"gharry/api"
	"gharry/arbiter"
	"gharry/disk"
)

// Promise 18.1: Format.

func TestFormatByHand(t *testing.T) {
	d := newDisk(t, 1)
	format(t, d, grant{16909060, 1})
	wantSector(t, d, 0, sector("\x00\x07arbiter"+"\x01\x02\x03\x04"+"\x01"))
	format(t, d, grant{maxEpoch, 0})
	wantSector(t, d, 0, sector("\x00\x07arbiter"+"\x7f\xff\xff\xff"+"\x00"))
}

func TestFormatWritesTheFirstSectorAlone(t *testing.T) {
	x := strings.Repeat("x", api.SectorBytes)
	for _, g := range grants() {
		d := newDisk(t, 4)
		for i := range 4 {
			put(t, d, i, x)
		}
		wantErr(t, "Sync", d.Sync(), api.OK)
		format(t, d, g)
		wantSector(t, d, 0, laid(g))
		for i := 1; i < 4; i++ {
			wantSector(t, d, i, x)
		}
	}
}

func TestFormatLasts(t *testing.T) {
	for _, g := range grants() {
		for _, sectors := range []int{1, 5} {
			d := newDisk(t, sectors)
			format(t, d, g)
			wantActs(t, d, 2)
			lose(t, d, 0)
			wantSector(t, d, 0, laid(g))
			wantLast(t, start(t, d), g)
		}
	}
}

func TestFormatAgain(t *testing.T) {
	d := newDisk(t, 1)
	r := rand.New(rand.NewSource(181))
	for range 200 {
		g := grant{r.Intn(maxEpoch + 1), r.Intn(api.Nodes)}
		format(t, d, g)
		wantSector(t, d, 0, laid(g))
		wantLast(t, start(t, d), g)
	}
}

func TestFormatRefusesEpochs(t *testing.T) {
	for _, e := range noEpochs() {
		for _, holder := range []int{0, 1} {
			d := newHome(t, laid(grant{7, 1}))
			wantUnturned(t, d, func() {
				wantErr(t, "Format", arbiter.Format(d, e, holder), api.ErrArg)
			})
			wantLast(t, start(t, d), grant{7, 1})
		}
	}
}

func TestFormatRefusesHolders(t *testing.T) {
	for _, holder := range noNodes() {
		for _, e := range []int{0, 1, maxEpoch, -1, maxEpoch + 1} {
			d := newHome(t, laid(grant{7, 1}))
			wantUnturned(t, d, func() {
				wantErr(t, "Format", arbiter.Format(d, e, holder), api.ErrArg)
			})
			wantLast(t, start(t, d), grant{7, 1})
		}
	}
}

func TestFormatRefusedOnANewDisk(t *testing.T) {
	d := newDisk(t, 5)
	wantUnturned(t, d, func() {
		wantErr(t, "epoch", arbiter.Format(d, -1, 0), api.ErrArg)
		wantErr(t, "holder", arbiter.Format(d, 1, 2), api.ErrArg)
	})
	wantNoStart(t, d, api.ErrNone)
}

func TestFormatOfNoDisk(t *testing.T) {
	wantErr(t, "nil disk", arbiter.Format(nil, 1, 0), api.ErrArg)
	wantErr(t, "nil disk, wrong epoch", arbiter.Format(nil, -1, 0), api.ErrArg)
	wantErr(t, "nil disk, wrong holder", arbiter.Format(nil, 1, 2), api.ErrArg)
	wantErr(t, "disk that nobody made", arbiter.Format(new(disk.Disk), 1, 0), api.ErrState)
}

func TestFormatWithoutPower(t *testing.T) {
	d := newHome(t, laid(grant{7, 1}))
	powerOff(t, d, 0)
	wantErr(t, "Format", arbiter.Format(d, 1, 0), api.ErrDown)
	if d.Up() {
		t.Error("Format let the power on")
	}
	wantActs(t, d, 2)
	powerOn(t, d)
	wantLast(t, start(t, d), grant{7, 1})
}

func TestFormatTellsArgumentsAheadOfTheDisk(t *testing.T) {
	off := newDisk(t, 2)
	powerOff(t, off, 0)
	for _, d := range []*disk.Disk{new(disk.Disk), off} {
		wantErr(t, "epoch", arbiter.Format(d, -1, 0), api.ErrArg)
		wantErr(t, "epoch", arbiter.Format(d, maxEpoch+1, 0), api.ErrArg)
		wantErr(t, "holder", arbiter.Format(d, 1, -1), api.ErrArg)
		wantErr(t, "holder", arbiter.Format(d, 1, 2), api.ErrArg)
	}
}

// Promise 18.1: Start and Last.

func TestStartOfANewDisk(t *testing.T) {
	for _, sectors := range []int{1, 2, api.MaxSectors} {
		wantNoStart(t, newDisk(t, sectors), api.ErrNone)
	}
}

func TestStartTellsTheRegister(t *testing.T) {
	for _, g := range grants() {
		d := newDisk(t, 5)
		format(t, d, g)
		wantUnturned(t, d, func() {
			a := start(t, d)
			wantUp(t, a, true)
			wantLast(t, a, g)
			wantLast(t, a, g)
		})
	}
}

func TestStartOfAnyBytesBehindTheText(t *testing.T) {
	r := rand.New(rand.NewSource(182))
	for range 500 {
		bytes := make([]byte, api.SectorBytes)
		r.Read(bytes)
		copy(bytes, sign)
		var want grant
		for _, b := range bytes[len(sign) : len(sign)+4] {
			want.epoch = 256*want.epoch + int(b)
		}
		want.holder = int(bytes[len(sign)+4])
		wantLast(t, start(t, newHome(t, string(bytes))), want)
	}
}

func TestStartOfTheTextAlone(t *testing.T) {
	wantLast(t, start(t, newHome(t, sign)), grant{0, 0})
	full := newHome(t, sign+strings.Repeat("\xff", api.SectorBytes-len(sign)))
	wantLast(t, start(t, full), grant{1<<32 - 1, 255})
}

func TestStartPassesOverWhatStandsBehind(t *testing.T) {
	for i := used; i < api.SectorBytes; i++ {
		bytes := []byte(laid(grant{258, 1}))
		bytes[i] = 255
		wantLast(t, start(t, newHome(t, string(bytes))), grant{258, 1})
	}
}

func TestStartOfAPartOfTheText(t *testing.T) {
	whole := laid(grant{258, 1})
	for n := range len(sign) {
		wantNoStart(t, newHome(t, sign[:n]), api.ErrNone)
		wantNoStart(t, newHome(t, sign[:n]+whole[n+1:]), api.ErrNone)
		wantNoStart(t, newHome(t, sign[:n]+strings.Repeat("\xff", api.SectorBytes-n)), api.ErrNone)
	}
}

func TestStartOfAnotherText(t *testing.T) {
	rest := "\x00\x00\x00\x02\x01"
	texts := []string{
		"arbiter", "\x07arbiter", "\x00arbiter", "\x00\x00\x07arbiter", "\x07\x00arbiter",
		"\x00\x06arbiter", "\x00\x08arbiter", "\x00\x08arbiter\x00", "\x00\x08arbiters", "\x01\x07arbiter",
		"\xff\xffarbiter", "\x00\x00arbiter", "\x00\x06arbite", "\x00\x06rbiter", "\x00\x07Arbiter", "\x00\x07ARBITER",
		"\x00\x07retibra", "\x00\x07gharry1", "\x00\x07\x00\x00\x00\x00\x00\x00\x00",
	}
	for _, s := range texts {
		wantNoStart(t, newHome(t, s), api.ErrNone)
		wantNoStart(t, newHome(t, s+rest), api.ErrNone)
	}
	// Each byte of the text turned to each other one.
	for i := range sign {
		for turn := 1; turn < 256; turn++ {
			bytes := []byte(laid(grant{2, 1}))
			bytes[i] ^= byte(turn)
			wantNoStart(t, newHome(t, string(bytes)), api.ErrNone)
		}
	}
}

func TestStartLooksAtTheFirstSectorAlone(t *testing.T) {
	d := newDisk(t, 5)
	for i := 1; i < 5; i++ {
		put(t, d, i, laid(grant{2, 1}))
	}
	wantNoStart(t, d, api.ErrNone)
}

func TestStartOfNoDisk(t *testing.T) {
	wantNoStart(t, nil, api.ErrArg)
	wantNoStart(t, new(disk.Disk), api.ErrState)
	for _, bytes := range []string{"", laid(grant{2, 1})} {
		d := newHome(t, bytes)
		powerOff(t, d, 0)
		wantNoStart(t, d, api.ErrDown)
		if d.Up() {
			t.Error("Start let the power on")
		}
	}
}

// Promise 18.2: Up.

func TestUpGoesWithThePower(t *testing.T) {
	d, a := newArbiter(t, grant{1, 0})
	wantUp(t, a, true)
	powerOff(t, d, 0)
	wantUp(t, a, false)
	wantLast(t, a, grant{1, 0})
	wantNoClaim(t, a, 1, 2, api.ErrDown)
	powerOn(t, d)
	// Nothing of it failed: it goes on.
	wantUp(t, a, true)
	wantLast(t, a, grant{1, 0})
	wantClaim(t, a, 1, 2, grant{2, 1})
}

// Promise 18.2: Claim.

func TestClaimExample(t *testing.T) {
	_, a := newArbiter(t, grant{1, 0})
	wantClaim(t, a, 1, 2, grant{2, 1})
	wantClaim(t, a, 0, 2, grant{2, 1})
	wantLast(t, a, grant{2, 1})
}

func TestClaimGrantsTheNextEpoch(t *testing.T) {
	for _, g := range grants() {
		if g.epoch == maxEpoch {
			continue
		}
		for _, node := range []int{0, 1} {
			d, a := newArbiter(t, g)
			put(t, d, 3, "waits")
			acts, next := d.Acts(), grant{g.epoch + 1, node}
			wantClaim(t, a, node, next.epoch, next)
			wantLast(t, a, next)
			wantUp(t, a, true)
			wantActs(t, d, acts+2)
			wantSector(t, d, 0, laid(next))
			wantSector(t, d, 3, sector("waits"))
			lose(t, d, 0)
			wantSector(t, d, 0, laid(next))
			wantLast(t, start(t, d), next)
		}
	}
}

func TestClaimOfAnotherEpochGrantsNothing(t *testing.T) {
	for _, g := range grants() {
		d, a := newArbiter(t, g)
		others := append(noEpochs(), g.epoch-2, g.epoch-1, g.epoch, g.epoch+2, g.epoch+3, g.epoch+257, g.epoch+1+1<<32, 0, 1, maxEpoch)
		wantUnturned(t, d, func() {
			for _, e := range others {
				if e == g.epoch+1 && e <= maxEpoch {
					continue
				}
				for _, node := range []int{0, 1} {
					wantClaim(t, a, node, e, g)
					wantLast(t, a, g)
					wantUp(t, a, true)
				}
			}
		})
	}
}

func TestClaimUpToTheGreatestEpoch(t *testing.T) {
	d, a := newArbiter(t, grant{maxEpoch - 1, 0})
	wantClaim(t, a, 1, maxEpoch, grant{maxEpoch, 1})
	wantUnturned(t, d, func() {
		wantClaim(t, a, 0, maxEpoch, grant{maxEpoch, 1})
		wantClaim(t, a, 0, maxEpoch+1, grant{maxEpoch, 1})
		wantClaim(t, a, 1, maxEpoch+1, grant{maxEpoch, 1})
	})
}

// A register that no Format wrote may have any numbers of so many bytes.
func TestClaimBehindAStrangeRegister(t *testing.T) {
	for _, e := range []int{maxEpoch, maxEpoch + 1, 1<<32 - 2, 1<<32 - 1} {
		d := newHome(t, laid(grant{e, 200}))
		a := start(t, d)
		wantUnturned(t, d, func() {
			wantClaim(t, a, 1, e+1, grant{e, 200})
		})
	}
	a := start(t, newHome(t, laid(grant{4, 200})))
	wantClaim(t, a, 1, 4, grant{4, 200})
	wantClaim(t, a, 1, 5, grant{5, 1})
}

func TestClaimRefusesNodes(t *testing.T) {
	for _, node := range noNodes() {
		d, a := newArbiter(t, grant{1, 1})
		wantUnturned(t, d, func() {
			for _, e := range []int{0, 1, 2, 3, -1, maxEpoch + 1} {
				wantNoClaim(t, a, node, e, api.ErrArg)
			}
		})
		wantUp(t, a, true)
		wantLast(t, a, grant{1, 1})
		wantClaim(t, a, 0, 2, grant{2, 0})
	}
}

func TestClaimWithoutPower(t *testing.T) {
	d, a := newArbiter(t, grant{1, 1})
	powerOff(t, d, 0)
	for _, node := range append(noNodes(), 0, 1) {
		for _, e := range []int{0, 1, 2, 3, -1, maxEpoch + 1} {
			wantNoClaim(t, a, node, e, api.ErrDown)
		}
	}
	if d.Up() {
		t.Error("Claim let the power on")
	}
	wantActs(t, d, 2)
	powerOn(t, d)
	wantLast(t, start(t, d), grant{1, 1})
}

// Promise 18.2 and 18.4: the power goes within a claim.

func TestClaimWhosePowerGoes(t *testing.T) {
	for _, node := range []int{0, 1} {
		for acts := range 2 {
			for _, keep := range []uint64{0, 1, 2, all} {
				old, next := grant{5, 1 - node}, grant{6, node}
				d, a := newArbiter(t, old)
				arm(t, d, acts, keep)
				wantNoClaim(t, a, node, 6, api.ErrDown)
				wantDead(t, d, a, old)
				want := old
				if acts == 1 && keep&1 != 0 {
					want = next
				}
				wantLast(t, start(t, d), want)
			}
		}
	}
}

// wantDead asks an arbiter that died, without power and with it.
func wantDead(t *testing.T, d *disk.Disk, a *arbiter.Arbiter, last grant) {
	t.Helper()
	wantUp(t, a, false)
	wantLast(t, a, last)
	powerOn(t, d)
	before := image(t, d)
	wantUnturned(t, d, func() {
		wantUp(t, a, false)
		wantLast(t, a, last)
		for _, node := range []int{0, 1, 2, -1} {
			for e := last.epoch - 1; e < last.epoch+3; e++ {
				wantNoClaim(t, a, node, e, api.ErrDown)
			}
		}
	})
	wantSector(t, d, 0, before[0])
}

func TestClaimThatGrantsNothingNeedsNoAct(t *testing.T) {
	d, a := newArbiter(t, grant{5, 1})
	arm(t, d, 0, all)
	wantClaim(t, a, 0, 5, grant{5, 1})
	wantClaim(t, a, 0, 7, grant{5, 1})
	wantNoClaim(t, a, 2, 6, api.ErrArg)
	wantUp(t, a, true)
	wantNoClaim(t, a, 0, 6, api.ErrDown)
	wantUp(t, a, false)
}

func TestClaimOnTheLastActThatGoesWell(t *testing.T) {
	d, a := newArbiter(t, grant{5, 1})
	arm(t, d, 2, 0)
	wantClaim(t, a, 0, 6, grant{6, 0})
	wantNoClaim(t, a, 1, 7, api.ErrDown)
	powerOn(t, d)
	wantLast(t, a, grant{6, 0})
	wantLast(t, start(t, d), grant{6, 0})
}

func TestFormatWhosePowerGoes(t *testing.T) {
	for acts := range 2 {
		for _, keep := range []uint64{0, 1, 2, all} {
			old, next := grant{5, 1}, grant{1, 0}
			d := newHome(t, laid(old))
			arm(t, d, acts, keep)
			wantErr(t, "Format", arbiter.Format(d, next.epoch, next.holder), api.ErrDown)
			powerOn(t, d)
			want := old
			if acts == 1 && keep&1 != 0 {
				want = next
			}
			wantLast(t, start(t, d), want)
		}
	}
}

// Promise 18.3.

func TestNoArbiter(t *testing.T) {
	for _, a := range []*arbiter.Arbiter{nil, new(arbiter.Arbiter)} {
		wantUp(t, a, false)
		wantLast(t, a, grant{0, 0})
		for _, node := range append(noNodes(), 0, 1) {
			for _, e := range append(noEpochs(), 0, 1, 2) {
				wantNoClaim(t, a, node, e, api.ErrState)
			}
		}
		wantUp(t, a, false)
		wantLast(t, a, grant{0, 0})
	}
}

// An arbiter behind another one of the same disk, which is used no more.
func TestArbitersOneBehindTheOther(t *testing.T) {
	d, a := newArbiter(t, grant{1, 0})
	for e := 2; e < 40; e++ {
		next := grant{e, e / 2 % 2}
		wantClaim(t, a, next.holder, e, next)
		a = start(t, d)
		wantLast(t, a, next)
		wantClaim(t, a, 1-next.holder, e, next)
	}
}

// Two disks have registers of their own.
func TestTwoArbiters(t *testing.T) {
	_, a := newArbiter(t, grant{1, 0})
	_, b := newArbiter(t, grant{8, 1})
	wantClaim(t, a, 1, 2, grant{2, 1})
	wantClaim(t, b, 0, 9, grant{9, 0})
	wantLast(t, a, grant{2, 1})
	wantLast(t, b, grant{9, 0})
	wantClaim(t, a, 0, 9, grant{2, 1})
}

// Promise P1: any arguments.
func TestAnyArguments(t *testing.T) {
	numbers := []int{math.MinInt, -1 << 32, -1 << 31, -2, -1, 0, 1, 2, 3, 255, 256, maxEpoch, maxEpoch + 1, 1<<32 - 1, 1 << 32, math.MaxInt}
	off := newDisk(t, 1)
	powerOff(t, off, 0)
	for _, d := range []*disk.Disk{nil, new(disk.Disk), off, newDisk(t, 1)} {
		for _, e := range numbers {
			for _, n := range numbers {
				arbiter.Format(d, e, n)
				a, err := arbiter.Start(d)
				if (a == nil) == (err == api.OK) {
					t.Fatalf("Start: %v, error %d", a, err)
				}
				a.Claim(n, e)
				a.Last()
				a.Up()
			}
		}
	}
}
