package txn_test

import (
	"maps"
	"math"
	"math/rand"
	"slices"
	"testing"

	"gharry/api"
	"gharry/tree"
	"gharry/txn"
	"gharry/wal"
)

// What ends all: ErrDown, ErrDamage.

// wantDead asks whether a manager is dead, whatever is asked of it.
func wantDead(t testing.TB, what string, m *txn.Manager, id int) {
	t.Helper()
	if !m.Dead() {
		t.Fatalf("%s: not dead", what)
	}
	wantRefused(t, m, id, api.ErrDown)
	wantErr(t, "Lose", m.Lose(nil), api.ErrDown)
	if !m.Dead() {
		t.Errorf("%s: not dead any more", what)
	}
}

// asks are calls of one who goes on, with acts and a save.
func asks() map[string]func(m *txn.Manager, id int) api.Errno {
	return map[string]func(m *txn.Manager, id int) api.Errno{
		"Get":     func(m *txn.Manager, id int) api.Errno { _, _, err := m.Get(id, "a"); return err },
		"Get key": func(m *txn.Manager, id int) api.Errno { _, _, err := m.Get(id, ""); return err },
		"Scan":    func(m *txn.Manager, id int) api.Errno { _, err := m.Scan(id, "", "", 9); return err },
		"Put":     func(m *txn.Manager, id int) api.Errno { _, err := m.Put(id, "a", "v"); return err },
		"Put key": func(m *txn.Manager, id int) api.Errno { _, err := m.Put(id, "", "v"); return err },
		"Put val": func(m *txn.Manager, id int) api.Errno { _, err := m.Put(id, "a", text('v', 33)); return err },
		"Delete":  func(m *txn.Manager, id int) api.Errno { _, err := m.Delete(id, "a"); return err },
		"Back":    func(m *txn.Manager, id int) api.Errno { return m.Back(id, 0) },
		"Back to": func(m *txn.Manager, id int) api.Errno { return m.Back(id, 1) },
		"Save":    func(m *txn.Manager, id int) api.Errno { _, err := saveAll(m, id); return err },
		"Commit":  func(m *txn.Manager, id int) api.Errno { _, err := m.Commit(id); return err },
		"Abort":   func(m *txn.Manager, id int) api.Errno { return m.Abort(id) },
		"Lose":    func(m *txn.Manager, id int) api.Errno { return m.Lose(m.Table()) },
	}
}

func saveAll(m *txn.Manager, id int) (int, api.Errno) {
	for range api.MaxSaves {
		if n, err := m.Save(id); err != api.OK {
			return n, err
		}
	}
	return 0, api.OK
}

// wide is a bench with more leaves than frames, and one who goes on, and has turned some.
func wide(t testing.TB, frames int) (*bench, int) {
	t.Helper()
	b := newBench(t, frames, 200, plentyLog)
	for i := range 20 {
		b.committed(text(byte('b'+i), 9), text('v', 32))
	}
	b.committed("a", "1")
	id := b.begin()
	b.save(id)
	b.put(id, "a", "2")
	for _, c := range []byte("clt") {
		b.remove(id, text(c, 9))
	}
	b.put(id, "z", "3")
	return b, id
}

// Without power: whatever needs the disk tells so, ahead of all other errors of the call;
// nothing is taken back.
func TestWithoutPower(t *testing.T) {
	for what, ask := range asks() {
		b, id := wide(t, 2)
		b.ok("Flush", b.l.Flush())
		_, err := b.x.Scan(text('k', 9), "", 3) // page 0 is in no frame, nor is the leaf of a
		b.ok("Scan", err)
		b.ok("Crash", b.d.Crash(0))
		end := b.l.End()
		wantErr(t, what, ask(b.m, id), api.ErrDown)
		if what != "Commit" && b.l.End() != end {
			t.Errorf("%s: the log ends at %d, was %d", what, b.l.End(), end)
		}
		wantDead(t, what, b.m, id)
	}
}

// The same of one who has no record: that no page can be told is not that none is free.
func TestWithoutPowerAndRecords(t *testing.T) {
	for what, ask := range asks() {
		if !slices.Contains([]string{"Get", "Scan", "Put", "Delete"}, what) {
			continue
		}
		b, _ := wide(t, 2)
		id := b.begin()
		_, err := b.x.Scan(text('k', 9), "", 3)
		b.ok("Scan", err)
		b.ok("Lose", b.m.Lose(b.m.Table()))
		b.ok("Crash", b.d.Crash(0))
		wantErr(t, what, ask(b.m, id), api.ErrDown)
		wantDead(t, what, b.m, id)
	}
}

// An error that needs no disk is told without power, too, if nothing is to be taken back.
func TestErrorsWithoutPower(t *testing.T) {
	b, _ := wide(t, 2)
	one, two, three := b.begin(), b.begin(), b.begin()
	b.ok("Crash", b.d.Crash(0))
	_, _, err := b.m.Get(one, "")
	wantErr(t, "Get", err, api.ErrKey)
	wantErr(t, "Abort", b.m.Abort(two), api.OK)
	if at := b.commit(three); at != 0 || b.m.Dead() {
		t.Errorf("Commit: %d; dead %v", at, b.m.Dead())
	}
}

// A commit of which the disk lets nothing last is told as ErrDown, and so is all behind it.
func TestCommitWithoutPower(t *testing.T) {
	for acts := range 2 {
		b := plenty(t)
		id := b.begin()
		b.put(id, "a", "1")
		b.ok("Arm", b.d.Arm(acts, 0))
		if at, err := b.m.Commit(id); at != 0 || err != api.ErrDown {
			t.Errorf("Commit: %d, error %d", at, err)
		}
		b.ok("Start", b.d.Start())
		wantDead(t, "Commit", b.m, id)
	}
}

// A log that others have filled: what is half done can't stay, and ends all. So it is if
// the leaf must be covered first.
func TestFullLog(t *testing.T) {
	for what, ask := range asks() {
		for mark := range 2 {
			b, id := wide(t, 16)
			b.x.Mark(mark * b.l.End())
			b.fill(3)
			err := ask(b.m, id)
			if what == "Get" || what == "Scan" {
				wantErr(t, what, err, api.OK)
				continue
			}
			wantErr(t, what, err, api.ErrDown)
			wantDead(t, what, b.m, id)
		}
	}
}

// Others have cut the log: who has no records there any more can't be taken back.
func TestCutLog(t *testing.T) {
	for _, what := range []string{"Abort", "Back", "Get key", "Lose"} {
		b, id := wide(t, 16)
		b.ok("Cut", b.l.Cut(1, 2))
		wantErr(t, what, asks()[what](b.m, id), api.ErrDamage)
		wantDead(t, what, b.m, id)
	}
}

// A log that can't be flushed ends all, whyever.
func TestLoseWithoutALog(t *testing.T) {
	b := plenty(t)
	m := txn.New(b.x, &wal.Log{}, 0)
	wantErr(t, "Lose", m.Lose(nil), api.ErrDown)
	wantDead(t, "Lose", m, 1)
}

// A log with room for what takes back, but not for the record that ends it.
func TestFullLogAtItsEnd(t *testing.T) {
	b := plenty(t)
	id := b.begin()
	b.put(id, "a", "1")
	undo := len(mustFrame(api.Rec{Kind: api.RecUndo, Act: api.RecDelete, Key: "a", Old: "1"}))
	b.fill(undo + 18)
	wantErr(t, "Abort", b.m.Abort(id), api.ErrDown)
	wantDead(t, "Abort", b.m, id)
	b = plenty(t)
	id = b.begin()
	b.put(id, "a", "1")
	b.fill(undo + 19)
	wantErr(t, "Abort with just room", b.m.Abort(id), api.OK)
	b.wantCells("Abort with just room")
}

// Frames that others pinned: who has no record ends by the error; who has one can't be
// taken back.
func TestPinnedFrames(t *testing.T) {
	b, id := wide(t, 2)
	other := b.begin()
	for _, page := range []int{3, 4} {
		b.ok("Pin", b.p.Pin(page))
	}
	_, _, err := b.m.Get(other, "q")
	wantErr(t, "Get", err, api.ErrFull)
	b.wantGoing("Get", id)
	if b.m.Dead() {
		t.Error("dead")
	}
	_, _, err = b.m.Get(id, "q")
	wantErr(t, "Get of one with records", err, api.ErrDown)
	wantDead(t, "Get", b.m, id)
}

// A leaf that is none any more: nothing is taken back.
func TestDamage(t *testing.T) {
	for what, ask := range asks() {
		b, id := wide(t, 16)
		b.ok("Set", b.p.Set(b.leafOf("a"), text('x', api.PageBytes), b.l.End()))
		end := b.l.End()
		err := ask(b.m, id)
		if what == "Commit" {
			wantErr(t, what, err, api.OK) // it needs no page
			continue
		}
		wantErr(t, what, err, api.ErrDamage)
		wantDead(t, what, b.m, id)
		if what == "Get" && b.l.End() != end {
			t.Errorf("%s: the log ends at %d, was %d", what, b.l.End(), end)
		}
	}
}

// A tree that has not what the log says of one who goes on can't be taken back.
func TestOthersTurnedIt(t *testing.T) {
	for what, spoil := range map[string]func(b *bench) api.Errno{
		"value": func(b *bench) api.Errno {
			return b.x.Change(1, b.l.End(), api.RecUpdate, api.Cell{Key: "a", Val: "other"})
		},
		"none":  func(b *bench) api.Errno { return b.x.Change(1, b.l.End(), api.RecDelete, api.Cell{Key: "a"}) },
		"there": func(b *bench) api.Errno { return b.x.Change(1, b.l.End(), api.RecInsert, api.Cell{Key: "b"}) },
	} {
		b := plenty(t)
		b.committed("b", "")
		id := b.begin()
		if what == "there" {
			b.remove(id, "b")
		} else {
			b.put(id, "a", "1")
		}
		b.ok("Change", spoil(b))
		end := b.l.End()
		wantErr(t, "Abort, "+what, b.m.Abort(id), api.ErrDamage)
		if b.l.End() != end {
			t.Errorf("%s: the log ends at %d, was %d", what, b.l.End(), end)
		}
		wantDead(t, what, b.m, id)
	}
}

// Losses of power at each act of the disk: what is committed is just what the commits
// came to whose records last.

type overlay map[string]*string // what a transaction's keys have; nil: nothing

type lossTxn struct {
	id    int
	turns overlay
	saves []overlay
}

// lossRun is a script until the power goes, and what the commits came to one by one.
type lossRun struct {
	*bench
	r        *rand.Rand
	keys     []string
	going    []*lossTxn
	states   []map[string]string
	answered int // commits that were told
}

func newLossRun(t testing.TB, seed int64, frames int) *lossRun {
	t.Helper()
	r := rand.New(rand.NewSource(seed))
	b := newBench(t, frames, 120, 1200)
	b.ok("Flush", b.l.Flush()) // the tree is there behind any loss
	return &lossRun{bench: b, r: r, keys: someKeys(r, 24)[2:], states: []map[string]string{{}}}
}

// run does so many steps; true, if the power went.
func (s *lossRun) run(steps int) bool {
	s.t.Helper()
	for range steps {
		if err := s.step(); err == api.ErrDown {
			return true
		} else if s.m.Dead() {
			s.t.Fatalf("dead, by the error %d", err)
		}
	}
	return false
}

func (s *lossRun) step() api.Errno {
	s.t.Helper()
	n := s.r.Intn(100)
	if len(s.going) == 0 || n < 10 && len(s.going) < 4 {
		id, err := s.m.Begin()
		if err == api.OK {
			s.going = append(s.going, &lossTxn{id: id, turns: overlay{}})
		}
		return err
	}
	x := s.going[s.r.Intn(len(s.going))]
	key := s.keys[s.r.Intn(len(s.keys))]
	var err api.Errno
	switch {
	case n < 50:
		val := text('v', s.r.Intn(33))
		if _, err = s.m.Put(x.id, key, val); err == api.OK {
			x.turns[key] = &val
		}
	case n < 70:
		if _, err = s.m.Delete(x.id, key); err == api.OK {
			x.turns[key] = nil
		}
	case n < 74:
		_, _, err = s.m.Get(x.id, key)
	case n < 78:
		if _, err = s.m.Save(x.id); err == api.OK {
			x.saves = append(x.saves, maps.Clone(x.turns))
		}
	case n < 82 && len(x.saves) > 0:
		i := s.r.Intn(len(x.saves))
		if err = s.m.Back(x.id, i); err == api.OK {
			x.turns, x.saves = maps.Clone(x.saves[i]), x.saves[:i+1]
		}
	case n < 95:
		return s.commit(x)
	default:
		err = s.m.Abort(x.id)
		s.leave(x)
	}
	if err != api.OK && err != api.ErrDown {
		s.leave(x)
	}
	return err
}

func (s *lossRun) commit(x *lossTxn) api.Errno {
	s.t.Helper()
	at, err := s.m.Commit(x.id)
	if err == api.OK && at == 0 {
		s.leave(x)
		return err
	}
	state := maps.Clone(s.states[len(s.states)-1])
	for key, val := range x.turns {
		if val == nil {
			delete(state, key)
		} else {
			state[key] = *val
		}
	}
	s.states = append(s.states, state)
	if err == api.OK {
		s.answered++
		s.leave(x)
	}
	return err
}

func (s *lossRun) leave(x *lossTxn) {
	s.going = slices.DeleteFunc(s.going, func(y *lossTxn) bool { return y == x })
}

func (s *lossRun) restart(run int) api.Errno {
	s.t.Helper()
	s.open(run)
	return s.lose()
}

// lose does the log's records again, and takes back who went on.
func (s *lossRun) lose() api.Errno {
	s.t.Helper()
	last := map[int]int{}
	recs, places := s.l.Records()
	for i, r := range recs {
		if err := tree.Again(s.p, r, places[i]); err != api.OK {
			return err
		}
		switch r.Kind {
		case api.RecInsert, api.RecDelete, api.RecUpdate, api.RecUndo:
			last[r.Txn] = places[i]
		case api.RecCommit, api.RecEnd:
			delete(last, r.Txn)
		}
	}
	var table []api.Active
	for _, id := range slices.Sorted(maps.Keys(last)) {
		table = append(table, api.Active{Txn: id, Last: last[id]})
	}
	return s.m.Lose(table)
}

// wantState holds the tree against what the commits in the log came to.
func (s *lossRun) wantState(what string) {
	s.t.Helper()
	commits := 0
	for _, e := range s.entries(1) {
		if e.r.Kind == api.RecCommit {
			commits++
		}
	}
	if commits < s.answered || commits >= len(s.states) {
		s.t.Fatalf("%s: %d commits last; %d were answered, of %d", what, commits, s.answered, len(s.states)-1)
	}
	var want []string
	state := s.states[commits]
	for _, key := range slices.Sorted(maps.Keys(state)) {
		want = append(want, key+"="+state[key])
	}
	s.wantCells(what, want...)
	if s.l.Durable() != s.l.End() {
		s.t.Errorf("%s: %d of %d lasts", what, s.l.Durable(), s.l.End())
	}
}

func TestLossAtEachAct(t *testing.T) {
	const steps = 120
	for seed := range int64(3) {
		frames := []int{2, 3, 8}[seed]
		whole := newLossRun(t, seed, frames)
		began := whole.d.Acts()
		if whole.run(steps) {
			t.Fatal("the power went")
		}
		for acts := range whole.d.Acts() - began {
			for _, keep := range []uint64{0, math.MaxUint64, 0x5a5a5a5a5a5a5a5a} {
				s := newLossRun(t, seed, frames)
				s.ok("Arm", s.d.Arm(acts, keep))
				if !s.run(steps) {
					t.Fatalf("the power did not go at act %d", acts)
				}
				wantDead(t, "loss", s.m, 101)
				s.ok("Start", s.d.Start())
				s.ok("restart", s.restart(2))
				s.wantState("restart")
				s.ok("restart", s.restart(3))
				s.wantState("restart once more")
			}
		}
	}
}

// The power goes while those are taken back who went on, too.
func TestLossWhileLosing(t *testing.T) {
	for _, keep := range []uint64{0, math.MaxUint64, 0x3333333333333333} {
		for stop := range 8 {
			s := newLossRun(t, 5, 3)
			s.run(60 + 9*stop)
			s.ok("Flush", s.l.Flush()) // those who go on are in the log
			s.ok("Crash", s.d.Crash(keep))
			for run, acts := 2, 0; ; run, acts = run+1, acts+1 {
				s.ok("Start", s.d.Start())
				s.open(run) // so that the arm is met by what comes behind it
				s.ok("Arm", s.d.Arm(acts, keep))
				if err := s.lose(); err == api.OK {
					s.d.Calm()
					s.wantState("Lose")
					break
				} else if err != api.ErrDown {
					t.Fatalf("Lose: error %d", err)
				}
			}
		}
	}
}
