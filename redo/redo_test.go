package redo_test

import (
	"math"
	"math/rand"
	"slices"
	"strings"
	"testing"

	"gharry/api"
	"gharry/pool"
	"gharry/redo"
	"gharry/tree"
	"gharry/wal"
)

// Promise 15.1: Table.

// What each kind of record tells of its transaction.
const (
	nothing = iota
	goesOn
	noMore
)

func kinds() []struct {
	why  string
	r    api.Rec
	what int
} {
	return []struct {
		why  string
		r    api.Rec
		what int
	}{
		{"a page as it is", full(5, leaf()), nothing},
		{"pages that are laid anew", shape(api.Image{Page: 5, Text: leaf()}, api.Image{Page: 7, Text: leaf()}), nothing},
		{"an insert", insert(5, 1, "a", "1"), goesOn},
		{"a delete", remove(5, 1, "a", "1"), goesOn},
		{"an update", update(5, 1, "a", "1", "2"), goesOn},
		{"an insert that takes back", undo(api.RecInsert, insert(5, 1, "a", "1")), goesOn},
		{"a delete that takes back", undo(api.RecDelete, remove(5, 1, "a", "1")), goesOn},
		{"an update that takes back", undo(api.RecUpdate, update(5, 1, "a", "1", "2")), goesOn},
		{"a commit", commit(5), noMore},
		{"an end", end(5), noMore},
		{"a check", check(5, 77, 6, 88), nothing},
		{"a check of nobody", check(), nothing},
		{"an epoch", epoch(5, 5), nothing},
	}
}

func TestTableOfEachKind(t *testing.T) {
	for _, c := range kinds() {
		b := newBench(t)
		at := b.add(c.r)
		alone := actives(5, at)
		if c.what != goesOn {
			alone = nil
		}
		wantTable(t, c.why, b.l, 0, alone...)

		b = newBench(t)
		first := b.add(insert(5, 1, "k", "0"))
		other := b.add(insert(9, 1, "l", "0"))
		at = b.add(c.r)
		want := actives(5, first, 9, other)
		if c.what == goesOn {
			want = actives(5, at, 9, other)
		} else if c.what == noMore {
			want = actives(9, other)
		}
		wantTable(t, c.why+" behind another record", b.l, 0, want...)
		again := b.add(update(5, 1, "k", "0", "1"))
		wantTable(t, "a record behind "+c.why, b.l, 0, actives(5, again, 9, other)...)
	}
}

func TestTableOfAnEmptyLog(t *testing.T) {
	b := newBench(t)
	for _, check := range []int{0, -1, math.MinInt} {
		wantTable(t, "nothing", b.l, check)
	}
	for _, check := range []int{1, 2, math.MaxInt} {
		wantDamage(t, "nothing", b.l, check)
	}
}

// What a record says of the one ahead of it is not asked.
func TestTableGoesByPlacesAlone(t *testing.T) {
	b := newBench(t)
	b.add(insert(5, 1, "a", "1"))
	r := insert(5, 1, "b", "1")
	r.Prev = 999
	at := b.add(r)
	wantTable(t, "a wrong Prev", b.l, 0, actives(5, at)...)
	r = undo(api.RecDelete, remove(5, 1, "b", "1"))
	r.Prev, r.Next = 888, 777
	at = b.add(r)
	wantTable(t, "a wrong Next", b.l, 0, actives(5, at)...)
}

// Numbers rise, whatever the order of their records, and of a map.
func TestTableRises(t *testing.T) {
	rng := rand.New(rand.NewSource(1))
	b := newBench(t)
	want := make([]api.Active, 300)
	for _, i := range rng.Perm(len(want)) {
		want[i] = api.Active{Txn: 1 + 7*i, Last: b.add(insert(1+7*i, 0, "", ""))}
	}
	for range 20 {
		wantTable(t, "many", b.l, 0, want...)
	}
	b = newBench(t, check(9, 3, 2, 8, 5, 1, 1<<48-1, 7, 1, 9))
	for range 20 {
		wantTable(t, "many of a check", b.l, 1, actives(1, 9, 2, 8, 5, 1, 9, 3, 1<<48-1, 7)...)
	}
}

// The words make no difference for the number 0: it is one as any other.
func TestTableOfTheNumberNought(t *testing.T) {
	b := newBench(t)
	at := b.add(insert(0, 1, "a", "1"))
	told := b.add(check(0, 7))
	b.add(check())
	b.add(full(3, leaf()))
	b.add(epoch(1, 0))
	wantTable(t, "an insert of nought", b.l, 0, actives(0, at)...)
	wantTable(t, "a check of nought", b.l, told, actives(0, 7)...)
	b.add(commit(0))
	wantTable(t, "a commit of nought", b.l, 0)
	wantTable(t, "a commit of nought", b.l, told)
}

func TestTableFromACheck(t *testing.T) {
	b := newBench(t)
	b.add(insert(3, 1, "a", "1"))
	b.add(insert(4, 1, "b", "1"))
	b.add(commit(4))
	at := b.add(check(9, 40, 5, 50, 2, 20, 8, 80, 9, 41, 6, 60))
	told := actives(2, 20, 5, 50, 6, 60, 8, 80, 9, 41)
	wantTable(t, "nothing behind it", b.l, at, told...)
	for _, r := range []api.Rec{full(5, leaf()), shape(), epoch(5, 5), check(5, 1, 77, 2), check()} {
		b.add(r)
	}
	wantTable(t, "nothing behind it that tells", b.l, at, told...)
	b.add(commit(5))
	b.add(end(6))
	b.add(commit(100))
	two := b.add(undo(api.RecInsert, insert(2, 1, "a", "1")))
	eleven := b.add(remove(11, 1, "a", "1"))
	want := actives(2, two, 8, 80, 9, 41, 11, eleven)
	wantTable(t, "what is behind it", b.l, at, want...)
	eight := b.add(update(8, 1, "a", "1", "2"))
	five := b.add(insert(5, 1, "a", "1"))
	wantTable(t, "one more", b.l, at, actives(2, two, 5, five, 8, eight, 9, 41, 11, eleven)...)
}

// What stands ahead of a check is not asked, and what another check tells neither.
func TestTableOfSeveralChecks(t *testing.T) {
	b := newBench(t)
	first := b.add(check(1, 11, 2, 22))
	three := b.add(insert(3, 1, "a", "1"))
	second := b.add(check(2, 33))
	b.add(commit(2))
	third := b.add(check(4, 1))
	wantTable(t, "the first one", b.l, first, actives(1, 11, 3, three)...)
	wantTable(t, "the second one", b.l, second)
	wantTable(t, "the last one", b.l, third, actives(4, 1)...)
	for _, none := range []int{0, -1, -first, -second, math.MinInt} {
		wantTable(t, "none", b.l, none, actives(3, three)...)
	}
}

// Where no check's record begins there is none.
func TestTableFromNoCheck(t *testing.T) {
	b := newBench(t)
	checks := map[int]struct{}{}
	for range 2 {
		for _, c := range kinds() {
			at := b.add(c.r)
			if c.r.Kind == api.RecCheck {
				checks[at] = struct{}{}
			}
		}
	}
	for at := 1; at < b.l.End()+100; at++ {
		if _, is := checks[at]; !is {
			wantDamage(t, "none", b.l, at)
		} else if _, err := redo.Table(b.l, at); err != api.OK {
			t.Errorf("Table from the check at %d: error %d", at, err)
		}
	}
	for _, at := range []int{math.MaxInt, 1 << 40, math.MaxInt32} {
		wantDamage(t, "none", b.l, at)
	}
}

// What is answered is new memory.
func TestAnswersAreNew(t *testing.T) {
	b := newBench(t, epoch(1, 0), check(5, 1, 6, 2), insert(7, 1, "a", "1"), commit(5), commit(8))
	for range 2 {
		table, _ := redo.Table(b.l, redo.Check(b.l))
		if !slices.Equal(table[:1], actives(6, 2)) {
			t.Errorf("Table: %v", table)
		}
		l := redo.Spans(b.l)
		if !slices.Equal(l, spans(1, 1)) {
			t.Errorf("Spans: %v", l)
		}
		commits := redo.Commits(b.l, b.l.End())
		if len(commits) != 2 || commits[0].Txn != 5 || commits[1].Txn != 8 {
			t.Errorf("Commits: %v", commits)
		}
		table[0], l[0], commits[0], commits[1] = api.Active{}, api.Span{}, api.Active{}, api.Active{}
	}
}

// Bytes within a record that look like another one are no record of the log.
func TestWhatLooksLikeARecord(t *testing.T) {
	for _, r := range []api.Rec{check(), check(9, 9), epoch(7, 1), commit(5), commit(8), end(5), insert(6, 1, "", "")} {
		b := newBench(t)
		at := b.lookAlike(r)
		wantAll(t, "looks like a record", b.l, all{table: actives(5, 1)})
		wantDamage(t, "looks like a record", b.l, at)
		_, p := pages(t, b.l, 4)
		wantRefused(t, "looks like a record", p, b.l, at, api.ErrDamage)
		wantAgain(t, "a record", p, b.l, 1, 1)
	}
}

// Promise 15.2: Again.

// busy is a log in which each kind of record stands, of pages that are there.
func busy(t testing.TB) *bench {
	t.Helper()
	return newBench(t,
		epoch(1, 0),
		shape(api.Image{Page: 3, Text: leaf("a", "0")}, api.Image{Page: 4, Text: leaf()}),
		insert(5, 3, "b", "1"),
		insert(6, 4, "z", "9"),
		update(5, 3, "a", "0", "2"),
		remove(5, 3, "b", "1"),
		undo(api.RecInsert, insert(5, 3, "b", "1")),
		check(5, 1, 6, 1),
		full(3, leaf("a", "2", "b", "1")),
		undo(api.RecUpdate, update(5, 3, "a", "2", "0")),
		undo(api.RecDelete, remove(5, 3, "b", "1")),
		end(5),
		commit(6),
	)
}

func TestAgainDoesAll(t *testing.T) {
	b := busy(t)
	records, places := b.l.Records()
	for _, from := range []int{1, 0, -1, -places[3], math.MinInt} {
		_, p := pages(t, b.l, 4)
		wantAgain(t, "all", p, b.l, from, len(records))
		wantPage(t, "all", p, 3, places[10], "a", "0")
		wantPage(t, "all", p, 4, places[3], "z", "9")
		if got, want := p.Table(), (api.Dirty{Page: 3, Rec: places[1]}); len(got) != 2 || got[0] != want {
			t.Errorf("Again: dirty %v", got)
		}
	}
}

// From each place on: as many records as stand there, and what they say; none from the
// end on; and from a place at which none begins nothing at all.
func TestAgainFromEachPlace(t *testing.T) {
	b := busy(t)
	records, places := b.l.Records()
	for from := 1; from <= b.l.End()+100; from++ {
		_, p := pages(t, b.l, 4)
		_, want := pages(t, b.l, 4)
		i, is := slices.BinarySearch(places, from)
		if !is && from < b.l.End() {
			wantRefused(t, "none begins there", p, b.l, from, api.ErrDamage)
			if _, taken := p.Counts(); taken != 0 {
				t.Errorf("Again from %d: %d pages were taken", from, taken)
			}
			continue
		}
		for j := i; j < len(records); j++ {
			b.ok("tree.Again", tree.Again(want, records[j], places[j]))
		}
		wantAgain(t, "a record begins there", p, b.l, from, len(records)-i)
		if got := versions(t, p); !slices.Equal(got, versions(t, want)) {
			t.Errorf("Again from %d: %+v", from, got)
		}
	}
	for _, from := range []int{math.MaxInt, 1 << 40} {
		_, p := pages(t, b.l, 4)
		wantAgain(t, "behind the end", p, b.l, from, 0)
	}
}

// What a page has already is not done again, but counted.
func TestAgainWhereThePagesHaveIt(t *testing.T) {
	b := busy(t)
	records, places := b.l.Records()
	_, p := pages(t, b.l, 4)
	wantAgain(t, "once", p, b.l, 1, len(records))
	b.ok("FlushAll", p.FlushAll())
	for _, i := range []int{0, 5, len(records) - 1} {
		wantAgain(t, "twice", p, b.l, places[i], len(records)-i)
	}
	if dirty := p.Table(); len(dirty) > 0 {
		t.Errorf("Again: dirty %v", dirty)
	}

	// Of a page that is behind the record of its sixth turn the others are done.
	_, p = pages(t, b.l, 4)
	b.ok("Set", p.Set(3, leaf("a", "2"), places[5]))
	wantAgain(t, "from the first on", p, b.l, 1, len(records))
	wantPage(t, "from the first on", p, 3, places[10], "a", "0")
	_, p = pages(t, b.l, 4)
	b.ok("Set", p.Set(3, leaf("x", "y"), places[12]))
	wantAgain(t, "a page of the log's end", p, b.l, 1, len(records))
	wantPage(t, "a page of the log's end", p, 3, places[12], "x", "y")
}

// With less frames than pages some must be saved on the way.
func TestAgainWithFewFrames(t *testing.T) {
	b := newBench(t)
	var want []version
	for id := range poolPages {
		key := string(rune('a' + id))
		b.add(full(id, leaf("k", key)))
		want = append(want, version{leaf("k", key, "l", key), 0})
	}
	for id := range poolPages {
		want[id].lsn = b.add(insert(5, id, "l", string(rune('a'+id))))
	}
	_, p := pages(t, b.l, pool.Least)
	wantAgain(t, "few frames", p, b.l, 1, 2*poolPages)
	if got := versions(t, p); !slices.Equal(got, want) {
		t.Errorf("Again: %+v, want %+v", got, want)
	}
	if b.l.Durable() != b.l.End() {
		t.Error("Again: pages were saved ahead of their records")
	}
}

func TestAgainOfAnEmptyLog(t *testing.T) {
	b := newBench(t)
	_, p := pages(t, b.l, 4)
	for _, from := range []int{math.MinInt, -1, 0, 1, 2, 99, math.MaxInt} {
		wantAgain(t, "nothing", p, b.l, from, 0)
		wantAgain(t, "nothing, in no pool", nil, b.l, from, 0)
	}
}

// The errors of tree.Again, each as it is.
func TestAgainErrs(t *testing.T) {
	right := []api.Rec{full(3, leaf("a", "0")), commit(5)}
	for _, c := range []struct {
		why  string
		r    api.Rec
		want api.Errno
	}{
		{"a page beyond all", full(poolPages, leaf()), api.ErrRange},
		{"a page far beyond all", insert(5, 65535, "a", "1"), api.ErrRange},
		{"one of the images is beyond all", shape(api.Image{Page: 4, Text: leaf()}, api.Image{Page: 99, Text: leaf()}), api.ErrRange},
		{"an insert of what is there", insert(5, 3, "a", "1"), api.ErrDamage},
		{"a delete of what is not there", remove(5, 3, "b", "1"), api.ErrDamage},
		{"an update of what is not there", undo(api.RecUpdate, update(5, 3, "b", "1", "2")), api.ErrDamage},
	} {
		b := newBench(t, right...)
		wrong := b.add(c.r)
		behind := b.add(insert(5, 3, "c", "1"))
		_, p := pages(t, b.l, 4)
		for range 2 {
			wantRefused(t, c.why, p, b.l, 1, c.want)
			wantPage(t, c.why, p, 3, 1, "a", "0")
			wantPage(t, c.why, p, 4, 0)
		}
		wantRefused(t, c.why, p, b.l, wrong, c.want)
		wantAgain(t, "behind it", p, b.l, behind, 1)
		wantPage(t, "behind it", p, 3, behind, "a", "0", "c", "1")
	}
}

// Of several that err it is the first.
func TestAgainTellsTheFirstError(t *testing.T) {
	beyond, damage := full(poolPages, leaf()), insert(5, 3, "a", "1")
	for _, c := range []struct {
		records []api.Rec
		want    api.Errno
	}{
		{[]api.Rec{beyond, damage}, api.ErrRange},
		{[]api.Rec{damage, beyond}, api.ErrDamage},
		{[]api.Rec{commit(5), damage, commit(6), beyond}, api.ErrDamage},
	} {
		b := newBench(t, full(3, leaf("a", "0")))
		for _, r := range c.records {
			b.add(r)
		}
		_, p := pages(t, b.l, 4)
		wantRefused(t, "several", p, b.l, 1, c.want)
	}
}

// A pool whose frames are pinned, whose disk has no power, or that nobody made: it errs at
// the first record that needs a page.
func TestAgainInAPoolThatErrs(t *testing.T) {
	without := newBench(t, epoch(1, 0), check(), commit(5), end(6))
	with := newBench(t, epoch(1, 0), commit(5), insert(5, 3, "a", "1"))
	pinned := func() *pool.Pool {
		_, p := pages(t, with.l, 2)
		with.ok("Pin", p.Pin(1))
		with.ok("Pin", p.Pin(2))
		return p
	}
	down := func() *pool.Pool {
		d, p := pages(t, with.l, 2)
		with.ok("Crash", d.Crash(0))
		return p
	}
	for _, c := range []struct {
		why  string
		p    *pool.Pool
		want api.Errno
	}{
		{"nil", nil, api.ErrState},
		{"nobody's", &pool.Pool{}, api.ErrState},
		{"pinned", pinned(), api.ErrFull},
		{"down", down(), api.ErrDown},
	} {
		wantAgain(t, c.why, c.p, without.l, 1, 4)
		wantRefused(t, c.why, c.p, with.l, 1, c.want)
		wantRefused(t, c.why, c.p, with.l, 2, api.ErrDamage)
		wantAgain(t, c.why, c.p, with.l, with.l.End(), 0)
	}
}

// Whenever the power of the pages goes, all is done again behind it.
func TestAgainBehindALossOfPower(t *testing.T) {
	b := newBench(t)
	for id := range poolPages {
		b.add(full(id, leaf("k", strings.Repeat("v", id))))
	}
	for id := range poolPages {
		b.add(update(5, id, "k", "", "w"))
	}
	_, whole := pages(t, b.l, 2)
	wantAgain(t, "with power", whole, b.l, 1, 2*poolPages)
	want := versions(t, whole)
	for acts := 0; ; acts++ {
		d, p := pages(t, b.l, 2)
		b.ok("Arm", d.Arm(acts, 0x5555))
		many, err := redo.Again(p, b.l, 1)
		if err == api.OK && acts > 50 {
			break
		}
		if many != 0 || err != api.ErrDown {
			t.Fatalf("Again, power for %d acts: %d, error %d", acts, many, err)
		}
		b.ok("Start", d.Start())
		p = poolOn(t, d, b.l, 2)
		wantAgain(t, "anew", p, b.l, 1, 2*poolPages)
		if got := versions(t, p); !slices.Equal(got, want) {
			t.Errorf("Again, power for %d acts: %+v, want %+v", acts, got, want)
		}
	}
}

// Promise 15.3: Spans, Check, Leader, Commits.

func TestSpansAndLeader(t *testing.T) {
	b := newBench(t)
	wantAll(t, "nothing", b.l, all{})
	var want []api.Span
	for i, e := range []api.Rec{epoch(1, 1), epoch(2, 0), epoch(7, 1), epoch(7, 0), epoch(3, 255), epoch(0, 1), epoch(1<<32-1, 0)} {
		want = append(want, api.Span{Epoch: e.Epoch, Start: b.add(e)})
		wantAll(t, "an epoch", b.l, all{spans: want, epoch: e.Epoch, node: e.Node})
		for _, c := range kinds() {
			if c.r.Kind != api.RecEpoch && c.r.Kind != api.RecCommit && c.r.Kind != api.RecCheck && c.what != goesOn {
				b.add(c.r)
			}
		}
		wantAll(t, "behind an epoch", b.l, all{spans: want, epoch: e.Epoch, node: e.Node})
		if i == 0 && want[0].Start != 1 {
			t.Error("the first epoch is not at 1")
		}
	}
}

func TestCheckIsTheLast(t *testing.T) {
	b := newBench(t, epoch(1, 0))
	if at := redo.Check(b.l); at != 0 {
		t.Errorf("Check of none: %d", at)
	}
	for range 3 {
		want := b.add(check(5, 1))
		if at := redo.Check(b.l); at != want {
			t.Errorf("Check: %d, want %d", at, want)
		}
		for _, c := range kinds() {
			if c.r.Kind != api.RecCheck {
				b.add(c.r)
			}
		}
		if at := redo.Check(b.l); at != want {
			t.Errorf("Check, ahead of others: %d, want %d", at, want)
		}
	}
	b = newBench(t, check())
	if at := redo.Check(b.l); at != 1 {
		t.Errorf("Check at the first place: %d", at)
	}
}

// Commits stand as they came, however often, and in whatever order of their numbers.
func TestCommitsAheadOfEachPlace(t *testing.T) {
	b := newBench(t)
	var want []api.Active
	for _, txn := range []int{9, 5, 5, 0, 7, 1<<48 - 1, 9} {
		for _, c := range kinds() {
			if c.r.Kind != api.RecCommit {
				b.add(c.r)
			}
		}
		want = append(want, api.Active{Txn: txn, Last: b.add(commit(txn))})
	}
	many := 0
	for end := -3; end < b.l.End()+10; end++ {
		for many < len(want) && want[many].Last < end {
			many++
		}
		if got := redo.Commits(b.l, end); !slices.Equal(got, want[:many]) {
			t.Errorf("Commits ahead of %d: %v, want %v", end, got, want[:many])
		}
	}
	if got := redo.Commits(b.l, math.MaxInt); !slices.Equal(got, want) {
		t.Errorf("Commits: %v, want %v", got, want)
	}
	if got := redo.Commits(b.l, math.MinInt); len(got) > 0 {
		t.Errorf("Commits ahead of all: %v", got)
	}
	b = newBench(t, commit(5))
	if got := redo.Commits(b.l, 1); len(got) > 0 {
		t.Errorf("Commits ahead of the first place: %v", got)
	}
	if got := redo.Commits(b.l, 2); !slices.Equal(got, actives(5, 1)) {
		t.Errorf("Commits ahead of the second place: %v", got)
	}
}

// Records that do not last yet are records; those that were cut, or lost, are not.
func TestWhatTheLogHas(t *testing.T) {
	b := newBench(t, epoch(1, 0), insert(5, 1, "a", "1"))
	last := b.add(check(5, 10))
	b.add(commit(5))
	six := b.add(insert(6, 1, "b", "1"))
	b.add(epoch(2, 1))
	want := all{table: actives(6, six), check: last, epoch: 2, node: 1}
	want.spans = spans(1, 1, 2, b.l.End()-12)
	want.commits = actives(5, six-19)
	wantAll(t, "not flushed", b.l, want)
	b.ok("Flush", b.l.Flush())
	wantAll(t, "flushed", b.l, want)
	l, err := wal.Open(b.d, 0, benchLog, 2)
	b.ok("wal.Open", err)
	wantAll(t, "opened again", l, want)

	b.l = l
	b.add(epoch(3, 0))
	b.add(commit(6))
	l, err = wal.Open(b.d, 0, benchLog, 3)
	b.ok("wal.Open", err)
	wantAll(t, "behind a loss", l, want)
	b.ok("Cut", l.Cut(last, 4))
	wantAll(t, "cut", l, all{table: actives(5, 13), epoch: 1, spans: spans(1, 1)})
	wantDamage(t, "cut", l, last)
	_, p := pages(t, l, 4)
	wantAgain(t, "cut", p, l, 1, 2)
	b.ok("Cut", l.Cut(1, 5))
	wantAll(t, "all cut", l, all{})
}

// What is told turns nothing: neither the log nor its disk.
func TestTellingTurnsNothing(t *testing.T) {
	b := busy(t)
	b.ok("Flush", b.l.Flush())
	b.add(commit(7))
	acts, end, durable := b.d.Acts(), b.l.End(), b.l.Durable()
	want := allOf(t, b.l)
	wantDamage(t, "an epoch", b.l, 1)
	wantAll(t, "asked again", b.l, want)
	_, p := pages(t, b.l, 4)
	wantAgain(t, "asked", p, b.l, 1, 14)
	wantAll(t, "asked again", b.l, want)
	if b.d.Acts() != acts || b.l.End() != end || b.l.Durable() != durable {
		t.Errorf("%d acts of the disk, the log ends at %d, %d of it last", b.d.Acts(), b.l.End(), b.l.Durable())
	}
}

// Promise 15.4: Part, Keep.

func TestPart(t *testing.T) {
	three := spans(1, 1, 3, 50, 6, 70)
	for _, c := range []struct {
		l                      []api.Span
		epoch, end             int
		wantEpoch, wantAtPlace int
	}{
		{nil, 2, 90, 0, 1},
		{nil, 2, 1, 0, 1},
		{nil, 2, 0, 0, 0},
		{nil, 2, -7, 0, -7},
		{nil, math.MaxInt, math.MaxInt, 0, 1},
		{three, math.MinInt, 90, 0, 1},
		{three, -1, 90, 0, 1},
		{three, 0, 90, 0, 1},
		{three, 0, 1, 0, 1},
		{three, 0, 0, 0, 0},
		{three, 0, math.MinInt, 0, math.MinInt},
		{three, 1, 90, 1, 50},
		{three, 2, 90, 1, 50},
		{three, 2, 51, 1, 50},
		{three, 2, 50, 1, 50},
		{three, 2, 49, 1, 49},
		{three, 2, 1, 1, 1},
		{three, 2, 0, 1, 0},
		{three, 2, -5, 1, -5},
		{three, 2, math.MaxInt, 1, 50},
		{three, 3, 90, 3, 70},
		{three, 5, 90, 3, 70},
		{three, 5, 60, 3, 60},
		{three, 6, 90, 6, 90},
		{three, 7, 90, 6, 90},
		{three, math.MaxInt, 90, 6, 90},
		{three, 6, 60, 6, 60},
		{three, 6, -1, 6, -1},
		{three, 6, math.MaxInt, 6, math.MaxInt},
		{spans(1, 1), 1, 90, 1, 90},
		{spans(1, 1), 0, 90, 0, 1},
		{spans(2, 10), 1, 90, 0, 1},
		{spans(2, 10), 2, 90, 2, 90},
		// Of spans of one epoch the later ones are not above it.
		{spans(2, 1, 2, 20, 3, 30, 3, 40), 2, 90, 2, 30},
		{spans(2, 1, 2, 20, 3, 30, 3, 40), 3, 90, 3, 90},
		// The first one above ends it, even if lesser ones come behind.
		{spans(1, 1, 9, 20, 2, 30), 5, 90, 1, 20},
		{spans(9, 5, 1, 20), 5, 90, 0, 1},
		{spans(5, 1, 2, 30), 5, 90, 2, 90},
		{spans(-3, 1, 0, 30), -1, 90, -3, 30},
	} {
		l := slices.Clone(c.l)
		if epoch, at := redo.Part(l, c.epoch, c.end); epoch != c.wantEpoch || at != c.wantAtPlace {
			t.Errorf("Part(%v, %d, %d): %d, %d, want %d, %d", c.l, c.epoch, c.end, epoch, at, c.wantEpoch, c.wantAtPlace)
		}
		if !slices.Equal(l, c.l) {
			t.Errorf("Part: what was handed in is %v now", l)
		}
	}
}

func TestKeep(t *testing.T) {
	three := spans(1, 1, 3, 50, 6, 70)
	for _, c := range []struct {
		l              []api.Span
		epoch, at, end int
		want           int
	}{
		{nil, 1, 5, 8, 5},
		{nil, 1, 8, 5, 5},
		{nil, 1, 5, 5, 5},
		{nil, 0, 0, 5, 0},
		{nil, 0, -5, 5, -5},
		{nil, 0, 5, -5, -5},
		{nil, 0, math.MaxInt, math.MinInt, math.MinInt},
		{nil, 0, math.MaxInt, math.MaxInt, math.MaxInt},
		{three, 0, 80, 90, 1},
		{three, 0, 1, 1, 1},
		{three, 0, 0, 90, 0},
		{three, math.MinInt, 80, 90, 1},
		{three, 1, 80, 90, 50},
		{three, 2, 80, 90, 50},
		{three, 2, 51, 90, 50},
		{three, 2, 50, 90, 50},
		{three, 2, 49, 90, 49},
		{three, 2, 90, 49, 49},
		{three, 2, 90, 50, 50},
		{three, 2, -1, 90, -1},
		{three, 2, 90, -1, -1},
		{three, 2, 20, 30, 20},
		{three, 2, 30, 20, 20},
		{three, 3, 80, 90, 70},
		{three, 5, 80, 90, 70},
		{three, 5, 60, 90, 60},
		{three, 6, 80, 90, 80},
		{three, 6, 90, 80, 80},
		{three, math.MaxInt, 800, 90, 90},
		{spans(2, 1, 2, 20, 3, 30, 3, 40), 2, 80, 90, 30},
		{spans(1, 1, 9, 20, 2, 30), 5, 80, 90, 20},
		{spans(9, 5, 1, 20), 5, 80, 90, 5},
		{spans(5, 1, 2, 30), 5, 80, 90, 80},
	} {
		l := slices.Clone(c.l)
		if got := redo.Keep(l, c.epoch, c.at, c.end); got != c.want {
			t.Errorf("Keep(%v, %d, %d, %d): %d, want %d", c.l, c.epoch, c.at, c.end, got, c.want)
		}
		if !slices.Equal(l, c.l) {
			t.Errorf("Keep: what was handed in is %v now", l)
		}
	}
}

// Two logs of one beginning: what Part tells of the one, and Keep lets stay of the other,
// is no more than both have.
func TestPartAndKeepOfTwoLogs(t *testing.T) {
	both := []api.Rec{epoch(1, 0), insert(5, 1, "a", "1"), commit(5), epoch(2, 1), insert(6, 1, "b", "1"), commit(6)}
	old, led := newBench(t, both...), newBench(t, both...)
	part := old.l.End()
	for _, r := range []api.Rec{insert(7, 1, "c", "1"), commit(7)} {
		old.add(r)
	}
	for _, r := range []api.Rec{epoch(4, 0), end(7), check()} {
		led.add(r)
	}
	epoch, at := redo.Part(redo.Spans(led.l), 2, led.l.End())
	if epoch != 2 || at != part {
		t.Errorf("Part: %d, %d, want 2, %d", epoch, at, part)
	}
	if got := redo.Keep(redo.Spans(old.l), epoch, at, old.l.End()); got != part {
		t.Errorf("Keep: %d, want %d", got, part)
	}
	// One that led an epoch of which the other one knows nothing.
	old.add(api.Rec{Kind: api.RecEpoch, Epoch: 3, Node: 1})
	epoch, at = redo.Part(redo.Spans(led.l), 3, led.l.End())
	if epoch != 2 || at != part {
		t.Errorf("Part: %d, %d, want 2, %d", epoch, at, part)
	}
	if got := redo.Keep(redo.Spans(old.l), epoch, at, old.l.End()); got != part {
		t.Errorf("Keep: %d, want %d", got, part)
	}
}

// Promise 15.5.

func TestOfNoLog(t *testing.T) {
	b := busy(t)
	_, p := pages(t, b.l, 4)
	before := versions(t, p)
	for _, l := range []*wal.Log{nil, {}, new(wal.Log)} {
		wantAll(t, "no log", l, all{})
		for _, at := range []int{math.MinInt, -1, 0} {
			wantTable(t, "no log", l, at)
		}
		for _, at := range []int{1, 5, math.MaxInt} {
			wantDamage(t, "no log", l, at)
		}
		for _, at := range []int{math.MinInt, -1, 0, 1, 5, math.MaxInt} {
			wantAgain(t, "no log", p, l, at, 0)
			wantAgain(t, "no log, no pool", nil, l, at, 0)
			if got := redo.Commits(l, at); len(got) > 0 {
				t.Errorf("Commits of no log: %v", got)
			}
		}
	}
	if !slices.Equal(versions(t, p), before) {
		t.Error("Again of no log turned a page")
	}
}

// The document's example.

func TestExample(t *testing.T) {
	if epoch, at := redo.Part(spans(1, 1, 3, 50), 2, 90); epoch != 1 || at != 50 {
		t.Errorf("Part: %d, %d, want 1, 50", epoch, at)
	}
}
