package arbiter_test

import (
	"math/rand"
	"testing"

	"gharry/api"
	"gharry/arbiter"
	"gharry/disk"
)

// script is an arbiter beside a plain register that says what it must tell.
type script struct {
	t    *testing.T
	r    *rand.Rand
	d    *disk.Disk
	a    *arbiter.Arbiter
	knew grant       // what the arbiter tells
	has  grant       // what is on its disk
	dead bool        // a claim of it failed
	left int         // acts that go well yet; -1: no arm
	keep uint64      // of the arm
	told map[int]int // whose each epoch is, as anybody was told
}

func newScript(t *testing.T, seed int64) *script {
	r := rand.New(rand.NewSource(seed))
	g := grant{r.Intn(3), r.Intn(api.Nodes)}
	d, a := newArbiter(t, g)
	return &script{t: t, r: r, d: d, a: a, knew: g, has: g, left: -1, told: map[int]int{}}
}

// tell notes whose an epoch is said to be: never two nodes'.
func (s *script) tell(g grant) {
	s.t.Helper()
	if was, there := s.told[g.epoch]; there && was != g.holder {
		s.t.Fatalf("epoch %d was granted to %d and to %d", g.epoch, was, g.holder)
	}
	s.told[g.epoch] = g.holder
}

func (s *script) step() {
	s.t.Helper()
	switch s.r.Intn(12) {
	case 0:
		s.crash()
	case 1:
		s.arm()
	case 2:
		if s.d.Up() {
			s.start()
		}
	case 3:
		s.powerOn()
	default:
		s.claim(s.r.Intn(api.Nodes+1), s.knew.epoch-1+s.r.Intn(4))
	}
	wantUp(s.t, s.a, !s.dead && s.d.Up())
	wantLast(s.t, s.a, s.knew)
	if s.d.Up() {
		wantSector(s.t, s.d, 0, laid(s.has))
	}
}

func (s *script) crash() {
	if s.d.Crash(s.r.Uint64()) == api.OK {
		s.left = -1
	}
}

func (s *script) arm() {
	acts, keep := s.r.Intn(6), s.r.Uint64()
	if s.d.Arm(acts, keep) == api.OK {
		s.left, s.keep = acts, keep
	}
}

func (s *script) powerOn() {
	s.d.Start()
	if s.r.Intn(2) == 0 {
		s.start()
	}
}

// start takes an arbiter anew, of what its disk has.
func (s *script) start() {
	s.t.Helper()
	s.a, s.dead, s.knew = start(s.t, s.d), false, s.has
	s.tell(s.knew)
}

func (s *script) claim(node, epoch int) {
	s.t.Helper()
	switch {
	case s.dead || !s.d.Up():
		wantNoClaim(s.t, s.a, node, epoch, api.ErrDown)
	case node >= api.Nodes:
		wantNoClaim(s.t, s.a, node, epoch, api.ErrArg)
	case epoch != s.knew.epoch+1:
		wantClaim(s.t, s.a, node, epoch, s.knew)
	case s.left == 0 || s.left == 1:
		s.claimFails(node, epoch)
	default:
		s.knew = grant{epoch, node}
		s.has = s.knew
		s.left = max(s.left-2, -1)
		wantClaim(s.t, s.a, node, epoch, s.knew)
		s.tell(s.knew)
	}
}

// claimFails claims while the arm goes off at the write, or at the sync behind it.
func (s *script) claimFails(node, epoch int) {
	s.t.Helper()
	wantNoClaim(s.t, s.a, node, epoch, api.ErrDown)
	if s.left == 1 && s.keep&1 != 0 {
		s.has = grant{epoch, node}
	}
	s.dead, s.left = true, -1
}

// Promise 18.4.
func TestNoEpochOfTwoNodes(t *testing.T) {
	for seed := range int64(300) {
		s := newScript(t, seed)
		for range 200 {
			s.step()
		}
		if t.Failed() {
			t.Fatalf("seed %d", seed)
		}
	}
}
