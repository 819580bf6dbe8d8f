package txn_test

import (
	"maps"
	"math/rand"
	"slices"
	"testing"

	"gharry/api"
	"gharry/lock"
	"gharry/txn"
)

// Promise 13.6: scripts, and a plain database beside the manager.

// plainAct is an act that can be taken back: what the key had, and has, and the
// transaction's record ahead.
type plainAct struct {
	key, old, val string
	had, has      bool
	prev          int
}

type plainTxn struct {
	id    int
	last  int
	acts  []plainAct
	saves []int // how many acts there were
	holds []lock.Hold
}

// plain is a database whose transactions lock keys and ranges, by the document's words alone.
type plain struct {
	high  int
	now   map[string]string
	going []*plainTxn
}

func (p *plain) find(id int) *plainTxn {
	for _, x := range p.going {
		if x.id == id {
			return x
		}
	}
	return nil
}

func (p *plain) acts() int {
	n := 0
	for _, x := range p.going {
		n += len(x.acts)
	}
	return n
}

// take holds a range of keys, if nobody else's hold bars it.
func (p *plain) take(x *plainTxn, mode int, lo, hi string, open bool) bool {
	for _, other := range p.going {
		for _, h := range other.holds {
			meets := (h.Open || lo <= h.Hi) && (open || h.Lo <= hi)
			if other != x && meets && (mode == lock.Own || h.Mode == lock.Own) {
				return false
			}
		}
	}
	for _, h := range x.holds {
		if h.Mode >= mode && h.Lo <= lo && (h.Open || !open && hi <= h.Hi) {
			return true
		}
	}
	x.holds = append(x.holds, lock.Hold{Txn: x.id, Mode: mode, Lo: lo, Hi: hi, Open: open})
	return true
}

func (p *plain) leave(x *plainTxn) {
	p.going = slices.DeleteFunc(slices.Clone(p.going), func(y *plainTxn) bool { return y == x })
}

func (p *plain) rising() []string {
	var l []string
	for _, key := range slices.Sorted(maps.Keys(p.now)) {
		l = append(l, key+"="+p.now[key])
	}
	return l
}

// back takes acts back until so many are left: the records that must tell it.
func (p *plain) back(x *plainTxn, left int) []api.Rec {
	var recs []api.Rec
	for len(x.acts) > left {
		a := x.acts[len(x.acts)-1]
		x.acts = x.acts[:len(x.acts)-1]
		r := api.Rec{Kind: api.RecUndo, Txn: x.id, Next: a.prev, Key: a.key}
		switch {
		case a.had && a.has:
			r.Act, r.Old, r.New = api.RecUpdate, a.val, a.old
		case a.has:
			r.Act, r.Old = api.RecDelete, a.val
		default:
			r.Act, r.New = api.RecInsert, a.old
		}
		if a.had {
			p.now[a.key] = a.old
		} else {
			delete(p.now, a.key)
		}
		recs = append(recs, r)
	}
	return recs
}

// abort takes all back, and ends it by a record, if it has one.
func (p *plain) abort(x *plainTxn) []api.Rec {
	recs := p.back(x, 0)
	if x.last > 0 {
		recs = append(recs, api.Rec{Kind: api.RecEnd, Txn: x.id})
	}
	p.leave(x)
	return recs
}

// pair is a manager and a plain database that do the same.
type pair struct {
	*bench
	plain plain
	met   map[api.Errno]int
}

func newPair(t testing.TB, frames, pages, logSectors int) *pair {
	t.Helper()
	b := newBench(t, frames, pages, logSectors)
	return &pair{bench: b, plain: plain{high: high, now: map[string]string{}}, met: map[api.Errno]int{}}
}

// hasRoom tells whether an act has room.
func (p *pair) hasRoom() bool {
	many := p.plain.acts() + 2
	return p.l.Left() >= txn.Margin+txn.Cost*many && p.x.Free() >= txn.Pages*many
}

// settle holds the records behind a place against those that must be there (but for
// their pages and Prevs), lets the transaction's last one be known, and all else be told.
func (p *pair) settle(what string, from int, x *plainTxn, recs []api.Rec) {
	p.t.Helper()
	got := p.entries(from)
	for i, e := range got {
		if i < len(recs) {
			recs[i].Prev = x.last
			recs[i].Page = e.r.Page
			if !same(e.r, recs[i]) {
				p.t.Fatalf("%s: record %+v, want %+v", what, e.r, recs[i])
			}
		}
		x.last = e.at
	}
	if len(got) != len(recs) {
		p.t.Fatalf("%s: records %+v, want %+v", what, got, recs)
	}
	p.wantSame(what)
}

func (p *pair) wantSame(what string) {
	p.t.Helper()
	var going []int
	var table []api.Active
	for _, x := range p.plain.going {
		going = append(going, x.id)
		if x.last > 0 {
			table = append(table, api.Active{Txn: x.id, Last: x.last})
		}
		if h := p.m.Holds(x.id); !slices.Equal(h, x.holds) {
			p.t.Fatalf("%s: %d holds %v, want %v", what, x.id, h, x.holds)
		}
	}
	p.wantGoing(what, going...)
	if got := p.m.Table(); !slices.Equal(got, table) {
		p.t.Fatalf("%s: Table %v, want %v", what, got, table)
	}
	if got := p.m.Acts(); got != p.plain.acts() || p.m.Dead() {
		p.t.Fatalf("%s: Acts %d, want %d; dead %v", what, got, p.plain.acts(), p.m.Dead())
	}
	if got, want := p.cells(), p.plain.rising(); !slices.Equal(got, want) {
		p.t.Fatalf("%s: the tree has %q, want %q", what, got, want)
	}
}

// refused lets the transaction of a call that errs end in the plain database, too.
func (p *pair) refused(x *plainTxn, err api.Errno) []api.Rec {
	p.met[err]++
	if err == api.OK || x == nil {
		return nil
	}
	return p.plain.abort(x)
}

func (p *pair) wantAnswer(what string, got, want api.Errno) {
	p.t.Helper()
	if got != want {
		p.t.Fatalf("%s: error %d, want %d", what, got, want)
	}
}

func (p *pair) doBegin() {
	p.t.Helper()
	id, err := p.m.Begin()
	if len(p.plain.going) == api.MaxTxns {
		p.met[api.ErrFull]++
		if id != 0 || err != api.ErrFull {
			p.t.Fatalf("Begin: %d, error %d", id, err)
		}
		return
	}
	p.plain.high++
	p.plain.going = append(p.plain.going, &plainTxn{id: p.plain.high})
	if id != p.plain.high || err != api.OK {
		p.t.Fatalf("Begin: %d, error %d, want %d", id, err, p.plain.high)
	}
}

func (p *pair) doGet(id int, key string) {
	p.t.Helper()
	x, want, from := p.plain.find(id), api.OK, p.l.End()
	switch {
	case x == nil:
		want = api.ErrTxn
	case key == "" || len(key) > 16:
		want = api.ErrKey
	case !p.plain.take(x, lock.Share, key, key, false):
		want = api.ErrLocked
	}
	val, there := p.plain.now[key]
	if want != api.OK {
		val, there = "", false
	}
	got, is, err := p.m.Get(id, key)
	p.wantAnswer("Get", err, want)
	if got != val || is != there {
		p.t.Fatalf("Get(%q): %q, %v, want %q, %v", key, got, is, val, there)
	}
	p.settle("Get", from, orNobody(x), p.refused(x, want))
}

func (p *pair) doScan(id int, lo, hi string, most int) {
	p.t.Helper()
	x, want, from := p.plain.find(id), api.OK, p.l.End()
	switch {
	case x == nil:
		want = api.ErrTxn
	case len(lo) > 16 || len(hi) > 16:
		want = api.ErrKey
	case hi != "" && hi < lo || most < 0:
		want = api.ErrRange
	case !p.plain.take(x, lock.Share, lo, hi, hi == ""):
		want = api.ErrLocked
	}
	var cells []api.Cell
	for _, key := range slices.Sorted(maps.Keys(p.plain.now)) {
		if want == api.OK && len(cells) < most && key >= lo && (hi == "" || key <= hi) {
			cells = append(cells, api.Cell{Key: key, Val: p.plain.now[key]})
		}
	}
	got, err := p.m.Scan(id, lo, hi, most)
	p.wantAnswer("Scan", err, want)
	if !slices.Equal(got, cells) {
		p.t.Fatalf("Scan(%q, %q, %d): %q, want %q", lo, hi, most, got, cells)
	}
	p.settle("Scan", from, orNobody(x), p.refused(x, want))
}

// doAct is a put, or a delete.
func (p *pair) doAct(id int, key, val string, puts bool) {
	p.t.Helper()
	x, want, from := p.plain.find(id), api.OK, p.l.End()
	switch {
	case x == nil:
		want = api.ErrTxn
	case key == "" || len(key) > 16:
		want = api.ErrKey
	case puts && len(val) > 32:
		want = api.ErrValue
	case !p.plain.take(x, lock.Own, key, key, false):
		want = api.ErrLocked
	case !p.hasRoom():
		want = api.ErrFull
	}
	old, had := p.plain.now[key]
	var is bool
	var err api.Errno
	if puts {
		is, err = p.m.Put(id, key, val)
	} else {
		is, err = p.m.Delete(id, key)
	}
	p.wantAnswer("act", err, want)
	if is != (had && want == api.OK) {
		p.t.Fatalf("act on %q: %v, want %v", key, is, had)
	}
	recs := p.refused(x, want)
	if want == api.OK && (puts || had) {
		recs = p.done(x, plainAct{key: key, old: old, val: val, had: had, has: puts, prev: x.last})
	}
	p.settle("act", from, orNobody(x), recs)
	if want == api.OK && puts {
		if r, _, _ := p.l.Read(x.last); r.Page != p.leafOf(key) {
			p.t.Fatalf("Put(%q): in page %d, want %d", key, r.Page, p.leafOf(key))
		}
	}
}

// done lets an act be done in the plain database: the record that must tell it.
func (p *pair) done(x *plainTxn, a plainAct) []api.Rec {
	x.acts = append(x.acts, a)
	if !a.has {
		delete(p.plain.now, a.key)
		return []api.Rec{{Kind: api.RecDelete, Txn: x.id, Key: a.key, Old: a.old}}
	}
	p.plain.now[a.key] = a.val
	kind := api.RecInsert
	if a.had {
		kind = api.RecUpdate
	}
	return []api.Rec{{Kind: kind, Txn: x.id, Key: a.key, Old: a.old, New: a.val}}
}

func (p *pair) doSave(id int) {
	p.t.Helper()
	x, want, which, from := p.plain.find(id), api.OK, 0, p.l.End()
	switch {
	case x == nil:
		want = api.ErrTxn
	case len(x.saves) == api.MaxSaves:
		want = api.ErrFull
	default:
		which = len(x.saves)
		x.saves = append(x.saves, len(x.acts))
	}
	got, err := p.m.Save(id)
	p.wantAnswer("Save", err, want)
	if got != which {
		p.t.Fatalf("Save: %d, want %d", got, which)
	}
	p.settle("Save", from, orNobody(x), p.refused(x, want))
}

func (p *pair) doBack(id, save int) {
	p.t.Helper()
	x, want, from := p.plain.find(id), api.OK, p.l.End()
	var recs []api.Rec
	switch {
	case x == nil:
		want = api.ErrTxn
	case save < 0 || save >= len(x.saves):
		want = api.ErrNone
	default:
		recs = p.plain.back(x, x.saves[save])
		x.saves = x.saves[:save+1]
	}
	p.wantAnswer("Back", p.m.Back(id, save), want)
	p.settle("Back", from, orNobody(x), append(recs, p.refused(x, want)...))
}

func (p *pair) doCommit(id int) {
	p.t.Helper()
	x, from := p.plain.find(id), p.l.End()
	at, err := p.m.Commit(id)
	if x == nil {
		if at != 0 || err != api.ErrTxn {
			p.t.Fatalf("Commit: %d, error %d", at, err)
		}
		return
	}
	var recs []api.Rec
	place := 0
	if x.last > 0 {
		recs, place = []api.Rec{{Kind: api.RecCommit, Txn: id}}, from
	}
	p.plain.leave(x)
	if at != place || err != api.OK || at > 0 && p.l.Durable() != p.l.End() {
		p.t.Fatalf("Commit: %d, error %d, want %d", at, err, place)
	}
	p.settle("Commit", from, x, recs)
}

func (p *pair) doAbort(id int) {
	p.t.Helper()
	x, from := p.plain.find(id), p.l.End()
	err := p.m.Abort(id)
	if x == nil {
		p.wantAnswer("Abort", err, api.ErrTxn)
		return
	}
	p.wantAnswer("Abort", err, api.OK)
	p.settle("Abort", from, x, p.plain.abort(x))
}

// orNobody is who has no record, if there is nobody.
func orNobody(x *plainTxn) *plainTxn {
	if x == nil {
		return &plainTxn{}
	}
	return x
}

// someKeys are keys of all lengths, near one another; ahead of them two that may not be.
func someKeys(r *rand.Rand, many int) []string {
	keys := []string{"", text('k', 17)}
	for range many {
		key := make([]byte, 1+r.Intn(api.MaxKey))
		for i := range key {
			key[i] = "ab\x00\xff"[r.Intn(4)]
		}
		keys = append(keys, string(key))
	}
	return keys
}

// step does one step of a script.
func (p *pair) step(r *rand.Rand, keys []string) {
	p.t.Helper()
	key := keys[2+r.Intn(len(keys)-2)]
	if r.Intn(60) == 0 {
		key = keys[r.Intn(2)] // that may not be
	}
	id := p.plain.high - r.Intn(3)
	if n := len(p.plain.going); n > 0 && r.Intn(30) > 0 {
		id = p.plain.going[r.Intn(n)].id
	}
	switch n := r.Intn(100); {
	case n < 12:
		p.doBegin()
	case n < 20:
		p.doGet(id, key)
	case n < 26:
		hi := keys[r.Intn(len(keys))]
		if r.Intn(8) > 0 && hi < key {
			key, hi = hi, key
		}
		p.doScan(id, key, hi, r.Intn(12)-1)
	case n < 58:
		p.doAct(id, key, text('v', r.Intn(34)), true)
	case n < 74:
		p.doAct(id, key, "", false)
	case n < 80:
		p.doSave(id)
	case n < 86:
		p.doBack(id, r.Intn(6)-1)
	case n < 95:
		p.doCommit(id)
	default:
		p.doAbort(id)
	}
}

// All errors that a script can meet are met; then what is in the pages is what the log
// says, too.
func TestScripts(t *testing.T) {
	met := map[api.Errno]int{}
	for seed := range 40 {
		r := rand.New(rand.NewSource(int64(seed)))
		p := newPair(t, []int{2, 3, 6, 64}[seed%4], []int{60, 120, 200}[seed%3], plentyLog)
		keys := someKeys(r, []int{6, 20, 60}[seed/4%3])
		for range 300 {
			p.step(r, keys)
			if r.Intn(40) == 0 {
				p.x.Mark(p.l.End())
			}
		}
		if !p.x.Check() {
			t.Fatalf("seed %d: the tree is none", seed)
		}
		for _, x := range slices.Clone(p.plain.going) {
			p.doAbort(x.id)
		}
		for err, n := range p.met {
			met[err] += n
		}
	}
	for _, err := range []api.Errno{api.OK, api.ErrTxn, api.ErrFull, api.ErrNone, api.ErrRange, api.ErrLocked, api.ErrKey, api.ErrValue} {
		if met[err] == 0 {
			t.Errorf("no script met the error %d", err)
		}
	}
}

// A log that fills up: acts are refused, while all that goes on can be taken back, and
// ended, and committed, to the end.
func TestScriptsInSmallLogs(t *testing.T) {
	for seed := range 12 {
		r := rand.New(rand.NewSource(int64(seed)))
		p := newPair(t, 4, 200, 900+60*seed)
		keys := someKeys(r, 40)
		for p.met[api.ErrFull] < 60 {
			p.step(r, keys)
			if p.m.Dead() {
				t.Fatal("dead")
			}
		}
		for _, x := range slices.Clone(p.plain.going) {
			if x.id%2 == 0 {
				p.doAbort(x.id)
			} else {
				p.doCommit(x.id)
			}
		}
		if !p.x.Check() || p.m.Acts() != 0 {
			t.Errorf("Check %v, Acts %d", p.x.Check(), p.m.Acts())
		}
	}
}

// The most acts that there can be, each with the greatest cells, all taken back in a log
// that others fill meanwhile with what is not kept free for that.
func TestAllIsTakenBack(t *testing.T) {
	for _, act := range []string{"insert", "update", "delete"} {
		b := plenty(t)
		var keys []string
		for i := range 60 {
			key := text(byte('a'+i%26), 15) + text(byte('a'+i), 1)
			keys = append(keys, key)
			if act != "insert" {
				b.committed(key, text('v', 16+i%16))
			}
		}
		want := b.cells()
		var full []int
		for k := 0; len(full) == 0 && k < len(keys); k++ {
			if k%4 == 0 && len(b.m.Going()) < api.MaxTxns {
				b.begin()
			}
			going := b.m.Going()
			var err api.Errno
			if id := going[len(going)-1]; act == "delete" {
				_, err = b.m.Delete(id, keys[k])
			} else {
				_, err = b.m.Put(id, keys[k], text('w', 32))
			}
			if err == api.ErrFull {
				full = going
			}
		}
		if len(full) == 0 {
			t.Fatalf("%s: never full", act)
		}
		b.x.Mark(b.l.End()) // all pages must be covered anew
		b.fill(txn.Margin + txn.Cost*b.m.Acts())
		for _, id := range b.m.Going() {
			b.ok("Abort", b.m.Abort(id))
		}
		b.wantCells(act, want...)
	}
}

// What one has seen stays so, and what it has turned, whatever others do meanwhile.
func TestWhatIsSeenStays(t *testing.T) {
	for seed := range 10 {
		r := rand.New(rand.NewSource(int64(100 + seed)))
		p := newPair(t, 8, 200, plentyLog)
		keys := someKeys(r, 12)
		for range 60 {
			p.step(r, keys)
		}
		for _, x := range slices.Clone(p.plain.going) {
			p.doAbort(x.id)
		}
		p.doBegin()
		me := p.plain.high
		p.doScan(me, "a", "b", 1000)
		if p.plain.find(me) == nil {
			t.Fatal("nobody bars it, and it was refused")
		}
		before, err := p.m.Scan(me, "a", "b", 1000)
		p.ok("Scan", err)
		for range 200 {
			p.stepOfOthers(r, keys, me)
			after, err := p.m.Scan(me, "a", "b", 1000)
			if err != api.OK || !slices.Equal(before, after) {
				t.Fatalf("Scan: %q, error %d, was %q", after, err, before)
			}
		}
	}
}

// stepOfOthers is an act by somebody else than one.
func (p *pair) stepOfOthers(r *rand.Rand, keys []string, me int) {
	p.t.Helper()
	others := slices.DeleteFunc(p.m.Going(), func(id int) bool { return id == me })
	if len(others) < 3 {
		p.doBegin()
		return
	}
	id := others[r.Intn(len(others))]
	switch key := keys[r.Intn(len(keys))]; r.Intn(5) {
	case 0:
		p.doAct(id, key, "", false)
	case 1:
		p.doCommit(id)
	default:
		p.doAct(id, key, text('v', r.Intn(30)), true)
	}
}
