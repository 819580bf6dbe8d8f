package engine_test

import (
	"maps"
	"math"
	"math/rand"
	"slices"
	"strconv"
	"strings"
	"testing"

	"gharry/api"
	"gharry/engine"
	"gharry/redo"
)

// Promise 17.8: two nodes, by scripts in which power goes at any act.

// was is what a key has; one that is not there was taken away.
type was struct {
	val string
	is  bool
}

// state is what was committed up to a commit, whose record stands at a place.
type state struct {
	at    int
	cells map[string]string
}

// share is a transaction that goes on: what its keys have now, and had at its saves.
type share struct {
	turned map[string]was
	saves  []map[string]was
}

type pair struct {
	t       *testing.T
	rng     *rand.Rand
	sides   [2]*bench
	lead    int // who leads
	epoch   int
	states  []state // behind no commit, and behind each
	going   map[int]*share
	pending map[string]was // of a commit that was not answered
	full    bool           // a log has no room for an epoch any more
}

func newPair(t *testing.T, seed int) *pair {
	t.Helper()
	p := &pair{t: t, rng: rand.New(rand.NewSource(int64(seed))), epoch: 1, states: []state{{0, map[string]string{}}}, going: map[int]*share{}}
	for i := range p.sides {
		p.sides[i] = &bench{t: t, d: newDisk(t, []int{api.MaxSectors, 4001, 1601}[seed%3])}
		ok(t, "Format", engine.Format(p.sides[i].d, i, 1))
		p.restart(i)
	}
	p.leadOn()
	p.recoverAll()
	return p
}

func (p *pair) leader() *bench   { return p.sides[p.lead] }
func (p *pair) follower() *bench { return p.sides[1-p.lead] }

// arm lets a side's power go some acts later, at times.
func (p *pair) arm(i, oneOf, acts int) {
	if p.rng.Intn(oneOf) == 0 {
		keep := []uint64{0, math.MaxUint64, p.rng.Uint64()}[p.rng.Intn(3)]
		p.sides[i].ok("Arm", p.sides[i].d.Arm(p.rng.Intn(acts), keep))
	}
}

// restart starts a side, however often its power goes then.
func (p *pair) restart(i int) {
	p.t.Helper()
	b := p.sides[i]
	for {
		if !b.d.Up() {
			b.ok("disk: Start", b.d.Start())
		}
		p.arm(i, 3, 30)
		g, err := engine.Start(b.d, 2+p.rng.Intn(9))
		if err == api.OK {
			b.g = g
			return
		}
		if err != api.ErrDown || g != nil {
			p.t.Fatalf("Start: error %d", err)
		}
	}
}

// leadOn lets who leads do so, however often its power goes then.
func (p *pair) leadOn() {
	p.t.Helper()
	p.going = map[int]*share{}
	for {
		err := p.leader().g.Lead(p.epoch)
		if p.full = err == api.ErrFull; p.full {
			return
		}
		if err == api.OK {
			break
		}
		p.wantDown("Lead", err)
		p.restart(p.lead)
		p.look(p.lead)
	}
	p.look(p.lead)
}

func (p *pair) wantDown(what string, err api.Errno) {
	p.t.Helper()
	if err != api.ErrDown {
		p.t.Fatalf("%s: error %d", what, err)
	}
}

// recover starts a side whose power went: it has what was committed; who leads does so again.
func (p *pair) recover(i int) {
	p.t.Helper()
	if p.sides[i].g.Up() {
		p.t.Fatal("an error, and up")
	}
	p.restart(i)
	if i == p.lead {
		p.settle()
	}
	p.look(i)
	if p.rng.Intn(2) == 0 { // started again it has the same
		p.restart(i)
		p.look(i)
	}
	if i == p.lead {
		p.leadOn()
	}
}

// settle finds out whether a commit lasts that was not answered; all others do.
func (p *pair) settle() {
	p.t.Helper()
	l := p.leader().g.Log()
	commits := redo.Commits(l, l.End())
	for i, s := range p.states[1:] {
		if i >= len(commits) || commits[i].Last != s.at {
			p.t.Fatalf("the commit at %d is gone", s.at)
		}
	}
	if len(commits) == len(p.states) && p.pending != nil {
		p.push(commits[len(commits)-1].Last, p.pending)
	}
	if len(commits) != len(p.states)-1 {
		p.t.Fatalf("%d commits, want %d", len(commits), len(p.states)-1)
	}
	p.pending = nil
}

// push lays what a transaction turned in a new state.
func (p *pair) push(at int, turned map[string]was) {
	s := state{at, maps.Clone(p.states[len(p.states)-1].cells)}
	for key, w := range turned {
		if w.is {
			s.cells[key] = w.val
		} else {
			delete(s.cells, key)
		}
	}
	p.states = append(p.states, s)
}

// known is what was committed of a side's log.
func (p *pair) known(i int) []api.Cell {
	s := p.states[0]
	for _, next := range p.states {
		if next.at < p.sides[i].g.Log().End() {
			s = next
		}
	}
	var l []api.Cell
	for _, key := range slices.Sorted(maps.Keys(s.cells)) {
		l = append(l, api.Cell{Key: key, Val: s.cells[key]})
	}
	return l
}

// look asks a side for all that was committed, for a range, and for a key. Its power may go
// by that, too.
func (p *pair) look(i int) {
	p.t.Helper()
	g, want := p.sides[i].g, p.known(i)
	got, err := g.List("", "", manyCells)
	if err == api.ErrDown {
		return
	}
	if err != api.OK || !slices.Equal(got, want) {
		p.t.Fatalf("side %d has %q, error %d, want %q", i, got, err, want)
	}
	if whole := g.Whole(); !whole && g.Up() {
		p.t.Fatalf("side %d has no tree", i)
	}
	lo, hi, most := p.key(), p.key(), p.rng.Intn(9)
	var some []api.Cell
	for _, c := range want {
		if c.Key >= lo && c.Key <= hi && len(some) < most {
			some = append(some, c)
		}
	}
	if got, err := g.List(lo, hi, most); lo <= hi && err != api.ErrDown && (err != api.OK || !slices.Equal(got, some)) {
		p.t.Fatalf("side %d has %q, error %d, want %q of %q to %q", i, got, err, some, lo, hi)
	}
	at := slices.IndexFunc(want, func(c api.Cell) bool { return c.Key == lo })
	if val, is, err := g.Read(lo); err != api.ErrDown && (err != api.OK || is != (at >= 0) || is && val != want[at].Val) {
		p.t.Fatalf("side %d: Read(%q): %q, %v, error %d", i, lo, val, is, err)
	}
}

func (p *pair) key() string { return "k" + strconv.Itoa(10+p.rng.Intn(60)) }

// step does something; a side whose power goes by that is started again.
func (p *pair) step() {
	p.t.Helper()
	switch n := p.rng.Intn(100); {
	case n < 70:
		p.done(p.lead, p.transaction())
	case n < 74:
		p.done(p.lead, p.leader().g.Check())
	case n < 75:
		p.done(p.lead, p.leader().g.Flush())
	case n < 88:
		p.ship(p.rng.Intn(api.MaxChunk))
	case n < 91:
		p.done(1-p.lead, p.follower().g.Check())
	case n < 92:
		p.done(1-p.lead, p.follower().g.Flush())
	case n < 96:
		p.look(p.rng.Intn(2))
	case n < 98:
		p.arm(p.rng.Intn(2), 1, 80)
	case n < 99:
		i := p.rng.Intn(2)
		p.sides[i].crash(p.rng.Uint64())
		p.recover(i)
	default:
		p.failOver()
	}
	p.recoverAll()
}

func (p *pair) recoverAll() {
	p.t.Helper()
	for i := range p.sides {
		for !p.sides[i].g.Up() && !p.full {
			p.recover(i)
		}
	}
}

// done holds what a side told against whether it is up.
func (p *pair) done(i int, err api.Errno) {
	p.t.Helper()
	if (err == api.ErrDown) == p.sides[i].g.Up() || err == api.ErrDamage {
		p.t.Fatalf("error %d, up %v", err, p.sides[i].g.Up())
	}
}

// ship gives who follows a part of the log that lasts.
func (p *pair) ship(most int) {
	p.t.Helper()
	s, err := p.leader().g.Log().From(p.follower().g.Log().End(), most)
	ok(p.t, "wal: From", err)
	p.done(1-p.lead, p.follower().g.Take(s))
}

// transaction does something with one. One that an error met is over, and leaves nothing.
func (p *pair) transaction() api.Errno {
	p.t.Helper()
	g := p.leader().g
	going := g.Going()
	if len(going) == 0 || len(going) < 4 && p.rng.Intn(6) == 0 {
		id, err := g.Begin()
		p.going[id] = &share{turned: map[string]was{}}
		return err
	}
	id := going[p.rng.Intn(len(going))]
	err := p.turn(id, p.going[id])
	if err != api.OK {
		delete(p.going, id)
	}
	return err
}

func (p *pair) turn(id int, x *share) api.Errno {
	p.t.Helper()
	g, key := p.leader().g, p.key()
	switch p.rng.Intn(16) {
	case 0, 1, 2:
		return p.commit(id, x)
	case 3:
		delete(p.going, id)
		return g.Abort(id)
	case 4, 5, 6:
		had, err := g.Delete(id, key)
		if err == api.OK {
			p.wantHad("Delete", had, x, key)
			x.turned[key] = was{}
		}
		return err
	case 7:
		x.saves = append(x.saves, maps.Clone(x.turned))
		_, err := g.Save(id)
		return err
	case 8:
		if len(x.saves) == 0 && p.rng.Intn(20) > 0 {
			return api.OK
		}
		i := p.rng.Intn(len(x.saves) + 1)
		if i == len(x.saves) && p.rng.Intn(20) > 0 {
			i = 0
		}
		if i < len(x.saves) {
			x.turned, x.saves = maps.Clone(x.saves[i]), x.saves[:i+1]
		}
		return g.Back(id, i)
	case 9:
		val, is, err := g.Get(id, key)
		if err == api.OK && (was{val, is}) != p.has(x, key) {
			p.t.Fatalf("Get(%q): %q, %v, want %v", key, val, is, p.has(x, key))
		}
		return err
	default:
		val := strconv.Itoa(p.rng.Intn(1<<20)) + strings.Repeat("v", p.rng.Intn(24))
		had, err := g.Put(id, key, val)
		if err == api.OK {
			p.wantHad("Put", had, x, key)
			x.turned[key] = was{val, true}
		}
		return err
	}
}

// has is what a transaction sees of a key.
func (p *pair) has(x *share, key string) was {
	if w, turned := x.turned[key]; turned {
		return w
	}
	val, is := p.states[len(p.states)-1].cells[key]
	return was{val, is}
}

func (p *pair) wantHad(what string, had bool, x *share, key string) {
	p.t.Helper()
	if had != p.has(x, key).is {
		p.t.Fatalf("%s(%q): %v", what, key, had)
	}
}

func (p *pair) commit(id int, x *share) api.Errno {
	p.arm(p.lead, 8, 4)
	at, err := p.leader().g.Commit(id)
	delete(p.going, id)
	if err != api.OK {
		p.pending = x.turned
	} else if at > 0 {
		p.push(at, x.turned)
	}
	return err
}

// failOver lets the other side lead: what it has not is gone, and the one that led comes to
// its log.
func (p *pair) failOver() {
	p.t.Helper()
	old := p.lead
	p.restart(old)
	p.settle()
	p.look(old)
	p.lead, p.epoch = 1-old, p.epoch+1
	for !p.leader().g.Up() {
		p.restart(p.lead)
	}
	common := p.leader().g.Log().End()
	p.states = slices.DeleteFunc(p.states, func(s state) bool { return s.at >= common })
	p.leadOn()
	for {
		err := p.sides[old].g.Cut(common)
		if err == api.OK {
			break
		}
		p.wantDown("Cut", err)
		p.restart(old)
	}
	p.look(old)
}

// Behind losses of power, at whatever act, each side has just what was committed of its log.
func TestPairs(t *testing.T) {
	for seed := range 40 {
		p := newPair(t, seed)
		for i := 0; i < 900 && !p.full; i++ {
			p.step()
		}
		for i := range p.sides {
			p.sides[i].d.Calm()
		}
		if p.full {
			p.look(p.lead)
			continue
		}
		for p.follower().g.Log().End() < p.leader().g.Log().Durable() {
			p.ship(api.MaxChunk)
		}
		for i, b := range p.sides {
			p.look(i)
			b.ok("Check", b.g.Check())
			b.ok("Flush", b.g.Flush())
			if many := b.lacking(); many > 0 {
				t.Errorf("side %d: %d pages lack something", i, many)
			}
			wantCovered(t, "a script", b.g.Log())
		}
		if t.Failed() {
			t.Fatalf("seed %d", seed)
		}
	}
}

// life is what a node does from its first start on, step by step; each tells how many
// commits there are behind it, if it goes well.
func life(b *bench) []func() (int, api.Errno) {
	var ids [3]int
	commits := 0
	does := func(do func() api.Errno) func() (int, api.Errno) {
		return func() (int, api.Errno) { err := do(); return commits, err }
	}
	begin := func(i int) func() (int, api.Errno) {
		return does(func() (err api.Errno) { ids[i], err = b.g.Begin(); return err })
	}
	put := func(i int, key, val string) func() (int, api.Errno) {
		return does(func() api.Errno { _, err := b.g.Put(ids[i], key, val); return err })
	}
	commit := func(i int) func() (int, api.Errno) {
		return does(func() api.Errno {
			_, err := b.g.Commit(ids[i])
			if err == api.OK {
				commits++
			}
			return err
		})
	}
	start := does(func() (err api.Errno) { b.g, err = engine.Start(b.d, 2); return err })
	lead := does(func() api.Errno { return b.g.Lead(1) })
	check := does(func() api.Errno { return b.g.Check() })
	return []func() (int, api.Errno){
		start, lead, begin(0), put(0, "a", "1"), put(0, "b", text('v', 32)), put(0, "c", text('v', 32)), put(0, "d", text('v', 32)),
		begin(1), put(1, "k", text('w', 32)), commit(0), check, put(1, "m", text('w', 32)), put(1, "n", text('w', 32)),
		does(func() api.Errno { return b.g.Flush() }), begin(2), put(2, "a", "2"), put(2, "e", text('x', 32)), check, commit(2), put(1, "o", text('w', 32)),
		start, lead, begin(0), does(func() api.Errno { _, err := b.g.Delete(ids[0], "b"); return err }), commit(0), check, begin(1), put(1, "q", "5"),
		start, does(func() api.Errno { return b.g.Check() }), lead,
	}
}

// Power that goes at any act of a whole life: what was answered lasts, and perhaps one
// commit more; started again, and leading, the node has the same.
func TestLife(t *testing.T) {
	v, x := text('v', 32), text('x', 32)
	steps := [][]api.Cell{nil, cells("a", "1", "b", v, "c", v, "d", v), cells("a", "2", "b", v, "c", v, "d", v, "e", x), cells("a", "2", "c", v, "d", v, "e", x)}
	for _, keep := range []uint64{0, 1, 2, 6, 0x5555, math.MaxUint64} {
		for acts, whole := 0, false; !whole; acts++ {
			b := &bench{t: t, frames: 2, d: newDisk(t, 2401)}
			b.ok("Format", engine.Format(b.d, 0, 1))
			b.ok("Arm", b.d.Arm(acts, keep))
			answered, err := 0, api.OK
			for _, do := range life(b) {
				if answered, err = do(); err != api.OK {
					break
				}
			}
			if whole = err == api.OK; whole && (answered != 3 || acts < 100) {
				t.Errorf("%d commits, %d acts", answered, acts)
			}
			if !whole {
				wantErr(t, "a life", err, api.ErrDown)
			}
			b.d.Calm()
			b.start()
			many := len(redo.Commits(b.g.Log(), b.g.Log().End()))
			if many != answered && many != answered+1 || many > 3 {
				t.Fatalf("%d commits, answered were %d", many, answered)
			}
			b.wantCells("Start", steps[many]...)
			b.lead(1)
			b.wantCells("Lead", steps[many]...)
			b.start()
			b.wantCells("Start once more", steps[many]...)
			if t.Failed() {
				t.Fatalf("keep %x, %d acts", keep, acts)
			}
		}
	}
}

// The same script tells the same, to the last byte of the disk.
func TestPairsAreTheSame(t *testing.T) {
	var had string
	for range 3 {
		p := newPair(t, 99)
		for i := 0; i < 300 && !p.full; i++ {
			p.step()
		}
		if got := p.sides[0].face() + p.sides[1].face(); had != "" && got != had {
			t.Error("another one")
		} else {
			had = got
		}
	}
}
