package wal_test

import (
	"math"
	"math/rand"
	"reflect"
	"slices"
	"strings"
	"testing"

	"gharry/api"
	"gharry/disk"
	"gharry/rec"
	"gharry/wal"
)

const (
	all    = math.MaxUint64
	maxRun = 1<<32 - 1
	part   = 58 // bytes of a log in a sector
)

func newDisk(t *testing.T, sectors int) *disk.Disk {
	t.Helper()
	d, err := disk.New(sectors)
	if err != api.OK {
		t.Fatalf("disk.New(%d): error %d", sectors, err)
	}
	return d
}

func open(t *testing.T, d *disk.Disk, base, sectors, run int) *wal.Log {
	t.Helper()
	l, err := wal.Open(d, base, sectors, run)
	if l == nil || err != api.OK {
		t.Fatalf("Open(%d, %d, %d): error %d", base, sectors, run, err)
	}
	return l
}

// number is n in so many bytes, the highest first.
func number(n, width int) string {
	var b []byte
	for i := range width {
		b = append(b, byte(n>>(8*(width-1-i))))
	}
	return string(b)
}

// laid is a sector, written by hand: the run, how many bytes, these, noughts.
func laid(run, many int, bytes string) string {
	s := number(run, 4) + number(many, 2) + bytes
	return s + strings.Repeat("\x00", api.SectorBytes-len(s))
}

// partOf is what the i-th sector has of a log's text.
func partOf(text string, i int) string {
	return text[min(part*i, len(text)):min(part*i+part, len(text))]
}

func noughts() string { return strings.Repeat("\x00", api.SectorBytes) }

func wantErr(t *testing.T, what string, got, want api.Errno) {
	t.Helper()
	if got != want {
		t.Errorf("%s: error %d, want %d", what, got, want)
	}
}

// put writes a sector by the disk alone.
func put(t *testing.T, d *disk.Disk, i int, bytes string) {
	t.Helper()
	if err := d.Write(i, bytes); err != api.OK {
		t.Fatalf("disk: Write(%d): error %d", i, err)
	}
}

// lose lets the power go, and on again.
func lose(t *testing.T, d *disk.Disk, keep uint64) {
	t.Helper()
	if err := d.Crash(keep); err != api.OK {
		t.Fatalf("Crash: error %d", err)
	}
	start(t, d)
}

func start(t *testing.T, d *disk.Disk) {
	t.Helper()
	if err := d.Start(); err != api.OK {
		t.Fatalf("Start: error %d", err)
	}
}

func arm(t *testing.T, d *disk.Disk, acts int, keep uint64) {
	t.Helper()
	if err := d.Arm(acts, keep); err != api.OK {
		t.Fatalf("Arm: error %d", err)
	}
}

// image is a disk's sectors, all of them.
func image(t *testing.T, d *disk.Disk) []string {
	t.Helper()
	var l []string
	for i := range d.Size() {
		s, err := d.Read(i)
		if err != api.OK {
			t.Fatalf("disk: Read(%d): error %d", i, err)
		}
		l = append(l, s)
	}
	return l
}

// wantImage asks for all sectors byte for byte, and that none of them waits.
func wantImage(t *testing.T, d *disk.Disk, want []string) {
	t.Helper()
	for i, got := range image(t, d) {
		if got != want[i] {
			t.Errorf("sector %d:\n got %q\nwant %q", i, got, want[i])
		}
	}
	if waiting := d.Waiting(); len(waiting) != 0 {
		t.Errorf("the sectors %v wait", waiting)
	}
}

// unturned tells, when it is called, whether acts were done since.
func unturned(t *testing.T, d *disk.Disk, what string) func() {
	acts, waiting := d.Acts(), d.Waiting()
	return func() {
		t.Helper()
		if d.Acts() != acts || !slices.Equal(d.Waiting(), waiting) {
			t.Errorf("%s: %d acts of the disk, want none; %v waits", what, d.Acts()-acts, d.Waiting())
		}
	}
}

func frameOf(t *testing.T, r api.Rec) string {
	t.Helper()
	s, err := rec.Frame(r)
	if err != api.OK {
		t.Fatalf("rec.Frame(%v): error %d", r, err)
	}
	return s
}

func framesOf(t *testing.T, l ...api.Rec) []string {
	t.Helper()
	var s []string
	for _, r := range l {
		s = append(s, frameOf(t, r))
	}
	return s
}

func page(seed int) string {
	b := make([]byte, api.PageBytes)
	for i := range b {
		b[i] = byte(seed*31 + i)
	}
	return string(b)
}

func commit(n int) api.Rec { return api.Rec{Kind: api.RecCommit, Txn: n, Prev: 1} }

func shape(many int) api.Rec {
	r := api.Rec{Kind: api.RecShape}
	for i := range many {
		r.Images = append(r.Images, api.Image{Page: i, Text: page(i)})
	}
	return r
}

// sized is a record whose frame has so many bytes: 25 to 73, or 8 (which is always the
// same one); n makes it unlike others.
func sized(t *testing.T, many, n int) api.Rec {
	t.Helper()
	r := api.Rec{Kind: api.RecCheck}
	if many != 8 {
		text := strings.Repeat(string(rune('a'+n%26)), many-25)
		key := min(len(text), api.MaxKey)
		r = api.Rec{Kind: api.RecInsert, Txn: n, Page: 7, Key: text[:key], New: text[key:]}
	}
	if got := len(frameOf(t, r)); got != many {
		t.Fatalf("a frame of %d bytes, want %d", got, many)
	}
	return r
}

// samples are records of every kind, of frames that are short, and over many sectors.
func samples() []api.Rec {
	return []api.Rec{
		{Kind: api.RecEpoch, Epoch: 1, Node: 1},
		shape(2),
		{Kind: api.RecFull, Images: []api.Image{{Page: 4, Text: page(9)}}},
		{Kind: api.RecInsert, Txn: 9, Page: 3, Key: "k", New: "new"},
		{Kind: api.RecUpdate, Txn: 9, Prev: 5, Page: 3, Key: "k", Old: "new", New: strings.Repeat("v", 32)},
		{Kind: api.RecDelete, Txn: 9, Prev: 7, Page: 3, Key: "k"},
		{Kind: api.RecUndo, Txn: 9, Prev: 8, Page: 3, Act: api.RecUpdate, Key: "k", Old: "a", New: "b", Next: 5},
		{Kind: api.RecCheck, Table: []api.Active{{Txn: 9, Last: 8}, {Txn: 10, Last: 1 << 40}}},
		{Kind: api.RecEnd, Txn: 9, Prev: 77},
		{Kind: api.RecCheck},
		shape(17),
		commit(11),
	}
}

// plain is what a log should have.
type plain struct {
	frames  []string
	lasting int // of the frames
	sectors int
	run     int
}

func (p *plain) text() string { return strings.Join(p.frames, "") }

func (p *plain) end() int { return len(p.text()) + 1 }

func (p *plain) durable() int { return len(strings.Join(p.frames[:p.lasting], "")) + 1 }

// places are those of the frames, and the end.
func (p *plain) places() []int {
	places := []int{1}
	for _, s := range p.frames {
		places = append(places, places[len(places)-1]+len(s))
	}
	return places
}

// from is what From should answer.
func (p *plain) from(lsn, most int) (string, api.Errno) {
	if lsn < 1 || lsn > p.durable() {
		return "", api.ErrRange
	}
	i := slices.Index(p.places(), lsn)
	if i < 0 {
		return "", api.ErrForm
	}
	s := ""
	for _, frame := range p.frames[i:p.lasting] {
		if s != "" && len(s)+len(frame) > most {
			break
		}
		s += frame
	}
	return s, api.OK
}

// wantLog asks a log for its numbers and its records.
func wantLog(t *testing.T, l *wal.Log, p *plain) {
	t.Helper()
	if l.End() != p.end() || l.Durable() != p.durable() || l.Left() != p.sectors*part-len(p.text()) || l.Run() != p.run {
		t.Errorf("End %d, Durable %d, Left %d, Run %d; want %d, %d, %d, %d", l.End(), l.Durable(), l.Left(), l.Run(),
			p.end(), p.durable(), p.sectors*part-len(p.text()), p.run)
	}
	records, places := l.Records()
	if len(records) != len(p.frames) || len(places) != len(p.frames) {
		t.Fatalf("Records: %d, at %v; want %d", len(records), places, len(p.frames))
	}
	for i, want := range p.places()[:len(p.frames)] {
		if places[i] != want || frameOf(t, records[i]) != p.frames[i] {
			t.Errorf("Records: the record %d is %v, at %d; want it at %d as %q", i, records[i], places[i], want, p.frames[i])
		}
	}
	if s, err := l.From(1, math.MaxInt); s != p.text()[:p.durable()-1] || err != api.OK {
		t.Errorf("From(1, all): error %d\n got %q\nwant %q", err, s, p.text()[:p.durable()-1])
	}
}

// wantPlaces asks a log for what is at each place, and around its ends.
func wantPlaces(t *testing.T, l *wal.Log, p *plain) {
	t.Helper()
	places, text := p.places(), p.text()
	for _, lsn := range []int{math.MinInt, -part, -1, 0, p.end() + 1, p.end() + part, math.MaxInt} {
		wantRead(t, l, lsn, api.Rec{}, 0, api.ErrNone)
	}
	for lsn := -2; lsn <= p.end()+2; lsn++ {
		if got, want := l.Bound(lsn), slices.Contains(places, lsn); got != want {
			t.Errorf("Bound(%d): %v, want %v", lsn, got, want)
		}
		if lsn < 1 || lsn >= p.end() {
			wantRead(t, l, lsn, api.Rec{}, 0, api.ErrNone)
			continue
		}
		r, many, err := rec.Open(text, lsn-1)
		if err == api.OK {
			many += lsn
		}
		wantRead(t, l, lsn, r, many, err)
	}
	if l.Bound(math.MinInt) || l.Bound(math.MaxInt) {
		t.Error("Bound at the ends of all numbers: true")
	}
}

func wantRead(t *testing.T, l *wal.Log, lsn int, r api.Rec, next int, want api.Errno) {
	t.Helper()
	if got, at, err := l.Read(lsn); !reflect.DeepEqual(got, r) || at != next || err != want {
		t.Errorf("Read(%d): %v, %d, error %d; want %v, %d, error %d", lsn, got, at, err, r, next, want)
	}
}

func wantFrom(t *testing.T, l *wal.Log, lsn, most int, want string, wantErr api.Errno) {
	t.Helper()
	if s, err := l.From(lsn, most); s != want || err != wantErr {
		t.Errorf("From(%d, %d): %d bytes, error %d; want %d, error %d", lsn, most, len(s), err, len(want), wantErr)
	}
}

func add(t *testing.T, l *wal.Log, p *plain, r api.Rec) {
	t.Helper()
	if at, err := l.Append(r); at != p.end() || err != api.OK {
		t.Fatalf("Append(%v): %d, error %d; want %d", r, at, err, p.end())
	}
	p.frames = append(p.frames, frameOf(t, r))
}

func flush(t *testing.T, l *wal.Log, p *plain) {
	t.Helper()
	if err := l.Flush(); err != api.OK {
		t.Fatalf("Flush: error %d", err)
	}
	p.lasting = len(p.frames)
}

// begun is a log of so many sectors from the sector 1 on, with records that last.
func begun(t *testing.T, sectors, run int, l ...api.Rec) (*disk.Disk, *wal.Log, *plain) {
	t.Helper()
	d := newDisk(t, sectors+2)
	log, p := open(t, d, 1, sectors, run), &plain{sectors: sectors, run: run}
	for _, r := range l {
		add(t, log, p, r)
	}
	flush(t, log, p)
	return d, log, p
}

// Promise 8.1.

func TestOpenOfANewDisk(t *testing.T) {
	for _, run := range []int{1, 2, 0x01020304, maxRun} {
		d := newDisk(t, 9)
		want := image(t, d)
		l := open(t, d, 3, 5, run)
		want[3] = laid(run, 0, "")
		wantImage(t, d, want)
		if d.Acts() != 2 {
			t.Errorf("Open: %d acts, want 2", d.Acts())
		}
		p := &plain{sectors: 5, run: run}
		wantLog(t, l, p)
		wantPlaces(t, l, p)
	}
}

func TestOpenRefuses(t *testing.T) {
	d := newDisk(t, 10)
	still := unturned(t, d, "Open")
	off := newDisk(t, 10)
	wantErr(t, "Crash", off.Crash(0), api.OK)
	for _, c := range []struct {
		d                  *disk.Disk
		base, sectors, run int
		want               api.Errno
	}{
		{nil, 0, 1, 1, api.ErrArg},
		{nil, -1, 0, 0, api.ErrArg},
		{d, -1, 1, 1, api.ErrArg},
		{d, math.MinInt, 1, 1, api.ErrArg},
		{d, 0, 0, 1, api.ErrArg},
		{d, 0, -1, 1, api.ErrArg},
		{d, 0, math.MinInt, 1, api.ErrArg},
		{d, 0, 1, 0, api.ErrArg},
		{d, 0, 1, -1, api.ErrArg},
		{d, 0, 1, math.MinInt, api.ErrArg},
		{d, 0, 1, 1 << 32, api.ErrArg},
		{d, 0, 1, math.MaxInt, api.ErrArg},
		{d, 0, 11, 1, api.ErrRange},
		{d, 1, 10, 1, api.ErrRange},
		{d, 9, 2, 1, api.ErrRange},
		{d, 10, 1, 1, api.ErrRange},
		{d, 11, 1, 1, api.ErrRange},
		{d, math.MaxInt, 1, 1, api.ErrRange},
		{d, 0, math.MaxInt, 1, api.ErrRange},
		{d, 1, math.MaxInt, 1, api.ErrRange},
		{d, math.MaxInt, math.MaxInt, maxRun, api.ErrRange},
		{&disk.Disk{}, 0, 1, 1, api.ErrRange},
		// Arguments are told ahead of ranges, and both ahead of the disk's error.
		{d, 11, 1, 0, api.ErrArg},
		{d, 11, 0, 1, api.ErrArg},
		{d, -1, 11, 1, api.ErrArg},
		{&disk.Disk{}, 0, 1, 0, api.ErrArg},
		{off, 0, 1, 0, api.ErrArg},
		{off, 0, 11, 1, api.ErrRange},
		{off, 0, 10, 1, api.ErrDown},
		{off, 9, 1, maxRun, api.ErrDown},
	} {
		if l, err := wal.Open(c.d, c.base, c.sectors, c.run); l != nil || err != c.want {
			t.Errorf("Open(%d, %d, %d): %v, error %d; want error %d", c.base, c.sectors, c.run, l, err, c.want)
		}
	}
	still()
}

func TestOpenAtTheEndsOfADisk(t *testing.T) {
	d := newDisk(t, api.MaxSectors)
	l := open(t, d, 0, api.MaxSectors, 1)
	if l.Left() != part*api.MaxSectors {
		t.Errorf("Left %d, want %d", l.Left(), part*api.MaxSectors)
	}
	l = open(t, d, api.MaxSectors-1, 1, 1)
	if l.Left() != part {
		t.Errorf("Left %d, want %d", l.Left(), part)
	}
}

// A sector by hand, of the log's own run or a lesser one, is told whole; behind it,
// what the log has, and not one byte beyond.
func TestOpenOfSectorsLaidByHand(t *testing.T) {
	one, two := frameOf(t, sized(t, 58, 1)), frameOf(t, sized(t, 58, 2))
	three := frameOf(t, commit(3))
	a, b, c := laid(1, 58, one), laid(2, 58, two), laid(2, 19, three)
	wide := func(s string, many int) string { return laid(2, many, s[6:64]) }
	for name, l := range map[string]struct {
		sectors []string
		want    []string
	}{
		"all, of a run each": {[]string{a, b, laid(3, 19, three)}, []string{one, two, three}},
		"two of one run":     {[]string{a, b, c}, []string{one, two, three}},
		"one run":            {[]string{laid(3, 58, one), laid(3, 58, two), laid(3, 19, three)}, []string{one, two, three}},
		"run 0":              {[]string{laid(0, 58, one), b, c}, nil},
		"run 0 behind":       {[]string{a, laid(0, 58, two), c}, []string{one}},
		"run above":          {[]string{laid(4, 58, one), b, c}, nil},
		"run above behind":   {[]string{a, laid(4, 58, two), c}, []string{one}},
		"the greatest run":   {[]string{a, b, laid(maxRun, 19, three)}, []string{one, two}},
		"a lesser run":       {[]string{a, b, laid(1, 19, three)}, []string{one, two}},
		"a lesser run, own":  {[]string{laid(3, 58, one), b, c}, []string{one}},
		"58 told":            {[]string{a, b}, []string{one, two}},
		"59 told":            {[]string{a, wide(b, 59), c}, []string{one}},
		"60 told at first":   {[]string{wide(a, 60), b, c}, nil},
		"65535 told":         {[]string{a, b, laid(2, 65535, three)}, []string{one, two}},
		"57 told":            {[]string{a, wide(b, 57), c}, []string{one}},
		"0 told":             {[]string{a, laid(2, 0, two), c}, []string{one}},
		"less told":          {[]string{a, b, laid(2, 18, three)}, []string{one, two}},
		"more told":          {[]string{a, b, laid(2, 20, three)}, []string{one, two, three}},
		"noughts":            {[]string{noughts(), b, c}, nil},
		"noughts behind":     {[]string{a, noughts(), c}, []string{one}},
		"a sum that is not":  {[]string{a, laid(2, 58, two[:57]+"!"), c}, []string{one}},
		"first of no sum":    {[]string{laid(1, 58, one[:57]+"!"), b, c}, nil},
	} {
		for _, size := range []int{3, 5} {
			d := newDisk(t, size+1)
			for i, s := range l.sectors {
				put(t, d, 1+i, s)
			}
			wantErr(t, "Sync", d.Sync(), api.OK)
			want := image(t, d)
			p := &plain{frames: l.want, lasting: len(l.want), sectors: size, run: 3}
			log := open(t, d, 1, size, 3)
			wantLog(t, log, p)
			wantPlaces(t, log, p)
			i := len(p.text()) / part
			want[1+i] = laid(3, len(partOf(p.text(), i)), partOf(p.text(), i))
			wantImage(t, d, want)
			if t.Failed() {
				t.Fatalf("%s: %q", name, l.sectors)
			}
		}
	}
}

// stands is what stands on a disk, as the document says it, a sector after the other.
func stands(t *testing.T, d *disk.Disk, base, sectors, run int) []string {
	t.Helper()
	text, ahead := "", 1
	for i := base; i < base+sectors; i++ {
		s, err := d.Read(i)
		if err != api.OK {
			t.Fatalf("disk: Read(%d): error %d", i, err)
		}
		wrote, many := 0, int(s[4])<<8|int(s[5])
		for _, b := range []byte(s[:4]) {
			wrote = wrote<<8 | int(b)
		}
		if wrote < 1 || wrote > run || wrote < ahead || many > part {
			break
		}
		text, ahead = text+s[6:6+many], wrote
		if many < part {
			break
		}
	}
	var frames []string
	for {
		_, many, err := rec.Open(text, 0)
		if err != api.OK {
			return frames
		}
		frames, text = append(frames, text[:many]), text[many:]
	}
}

// All runs around the log's own, and all numbers of bytes around 58, of three sectors.
func TestOpenOfAllRunsAndNumbers(t *testing.T) {
	text := frameOf(t, sized(t, 50, 1)) + frameOf(t, sized(t, 66, 2)) + frameOf(t, sized(t, 40, 3)) + frameOf(t, sized(t, 30, 4))
	manys := []int{0, 50, 57, 58, 59}
	for n := range 4 * 4 * 4 {
		runs := []int{n % 4, n / 4 % 4, n / 16 % 4}
		for m := range 5 * 5 * 5 {
			d := newDisk(t, 3)
			for i, many := range []int{manys[m%5], manys[m/5%5], manys[m/25%5]} {
				put(t, d, i, laid(runs[i], many, partOf(text, i)))
			}
			frames := stands(t, d, 0, 3, 2)
			p := &plain{frames: frames, lasting: len(frames), sectors: 3, run: 2}
			wantLog(t, open(t, d, 0, 3, 2), p)
			if t.Failed() {
				t.Fatalf("runs %v, numbers %d", runs, m)
			}
		}
	}
}

// A frame that begins in one sector and ends in another is not there, if that one is
// not; the sector in which it began is cut.
func TestOpenCutsAFrameThatIsNotWhole(t *testing.T) {
	for cut := range 4 {
		d, _, p := begun(t, 6, 1, sized(t, 40, 1), shape(1), sized(t, 30, 2))
		want := image(t, d)
		put(t, d, 1+cut, noughts())
		frames := stands(t, d, 1, 6, 2)
		p = &plain{frames: frames, lasting: len(frames), sectors: 6, run: 2}
		wantLog(t, open(t, d, 1, 6, 2), p)
		want[1+cut] = noughts()
		want[1] = laid(2, len(p.text()), p.text())
		wantImage(t, d, want)
		if many := min(cut, 1); len(frames) != many {
			t.Errorf("without the sector %d: %d frames, want %d", cut, len(frames), many)
		}
	}
}

// Where a log ends just where a sector does, the next sector is that of its end.
func TestOpenAtTheEndOfASector(t *testing.T) {
	for many := 1; many <= 3; many++ {
		d := newDisk(t, 5)
		l, p := open(t, d, 1, 3, 1), &plain{sectors: 3, run: 1}
		for i := range many {
			add(t, l, p, sized(t, 58, i))
		}
		flush(t, l, p)
		want := image(t, d)
		acts := d.Acts()
		p.run = 9
		l = open(t, d, 1, 3, 9)
		wantLog(t, l, p)
		wantPlaces(t, l, p)
		if many < 3 {
			want[1+many] = laid(9, 0, "")
			acts += 2
		}
		wantImage(t, d, want)
		if d.Acts() != acts {
			t.Errorf("%d sectors that are full: %d acts, want %d", many, d.Acts(), acts)
		}
	}
}

func TestOpenedAgainAndAgain(t *testing.T) {
	d, l, p := begun(t, 200, 1, samples()...)
	for _, run := range []int{2, 3, 700, 70000, maxRun - 1, maxRun} {
		p.run = run
		l = open(t, d, 1, 200, run)
		wantLog(t, l, p)
		if run < maxRun {
			add(t, l, p, commit(run))
			flush(t, l, p)
		}
	}
	wantPlaces(t, l, p)
}

// A lesser run is nothing that 8.6 promises anything of; but it is opened, and has what
// the words say.
func TestOpenInALesserRun(t *testing.T) {
	d, _, p := begun(t, 5, 4, commit(1))
	wantLog(t, open(t, d, 1, 5, 4), p)
	wantLog(t, open(t, d, 1, 5, 3), &plain{sectors: 5, run: 3})
}

func TestLogsBesideOneAnother(t *testing.T) {
	d := newDisk(t, 8)
	a, b := open(t, d, 1, 2, 1), open(t, d, 3, 2, 1)
	p, q := &plain{sectors: 2, run: 1}, &plain{sectors: 2, run: 1}
	add(t, a, p, sized(t, 58, 1))
	add(t, a, p, sized(t, 58, 2))
	add(t, b, q, sized(t, 58, 3))
	flush(t, a, p)
	flush(t, b, q)
	wantLog(t, open(t, d, 1, 2, 1), p)
	wantLog(t, open(t, d, 3, 2, 1), q)
	for _, i := range []int{0, 5, 6, 7} {
		if s, _ := d.Read(i); s != noughts() {
			t.Errorf("sector %d is none of a log's: %q", i, s)
		}
	}
}

// Promise 8.2.

func TestExample(t *testing.T) {
	d := newDisk(t, 11)
	l, p := open(t, d, 1, 10, 1), &plain{sectors: 10, run: 1}
	add(t, l, p, commit(5))
	add(t, l, p, commit(6))
	flush(t, l, p)
	two := plain{frames: p.frames, lasting: 2, sectors: 10, run: 2}
	add(t, l, p, commit(7))
	wantLog(t, l, p)
	lose(t, d, 0)
	wantLog(t, open(t, d, 1, 10, 2), &two)
}

func TestAppendOfEveryKind(t *testing.T) {
	d := newDisk(t, 120)
	l, p := open(t, d, 0, 120, 7), &plain{sectors: 120, run: 7}
	still := unturned(t, d, "Append")
	for _, r := range samples() {
		add(t, l, p, r)
		wantLog(t, l, p)
	}
	wantPlaces(t, l, p)
	still()
	flush(t, l, p)
	wantLog(t, l, p)
	p.run = 8
	wantLog(t, open(t, d, 0, 120, 8), p)
}

func TestAppendIsClean(t *testing.T) {
	_, l, _ := begun(t, 5, 1)
	at, err := l.Append(api.Rec{Kind: api.RecCommit, Txn: 5, Prev: 1, Key: "k", Epoch: 4, Table: []api.Active{{Txn: 1}}})
	wantErr(t, "Append", err, api.OK)
	wantRead(t, l, at, commit(5), 20, api.OK)
}

func TestAppendRefuses(t *testing.T) {
	d, l, p := begun(t, 1, 1, sized(t, 50, 1))
	still := unturned(t, d, "Append")
	long := strings.Repeat("v", 33)
	for _, r := range []api.Rec{
		{},
		{Kind: 11},
		{Kind: -1},
		{Kind: api.RecFull},
		{Kind: api.RecFull, Images: []api.Image{{Page: 1, Text: "short"}}},
		{Kind: api.RecUndo, Act: 7},
		{Kind: api.RecInsert, Key: "seventeen-bytes--"},
		{Kind: api.RecInsert, New: long},
		{Kind: api.RecDelete, Old: long},
		{Kind: api.RecCommit, Txn: -1},
		{Kind: api.RecCommit, Txn: 1 << 48},
		{Kind: api.RecEpoch, Node: 256},
		shape(18),
		shape(256),
	} {
		_, want := rec.Frame(r)
		if want == api.OK || want == api.ErrFull {
			t.Fatalf("%v has a frame", r)
		}
		if at, err := l.Append(r); at != 0 || err != want {
			t.Errorf("Append(%v): %d, error %d; want 0, error %d", r, at, err, want)
		}
	}
	for _, r := range []api.Rec{{Kind: api.RecEpoch}, commit(1), shape(17)} {
		if at, err := l.Append(r); at != 0 || err != api.ErrFull {
			t.Errorf("Append(%v): %d, error %d; want 0, error %d", r, at, err, api.ErrFull)
		}
	}
	wantLog(t, l, p)
	add(t, l, p, sized(t, 8, 1)) // just the room that is left
	wantLog(t, l, p)
	if at, err := l.Append(sized(t, 8, 1)); at != 0 || err != api.ErrFull {
		t.Errorf("Append to a full log: %d, error %d", at, err)
	}
	still()
	flush(t, l, p)
	wantLog(t, l, p)
}

// The last byte of the last sector is room, and not one more.
func TestRoomToTheLastByte(t *testing.T) {
	for many := 25; many <= 73; many++ {
		for sectors := 2; sectors <= 4; sectors++ {
			d, l, p := begun(t, sectors, 1)
			for i := 0; len(p.text())+many+25 <= sectors*part; i++ {
				add(t, l, p, sized(t, many, i))
			}
			left := sectors*part - len(p.text())
			if left+1 <= 73 {
				if at, err := l.Append(sized(t, left+1, 9)); at != 0 || err != api.ErrFull {
					t.Errorf("%d bytes are left: Append of %d: %d, error %d", left, left+1, at, err)
				}
				if at, err := l.Put(frameOf(t, sized(t, left+1, 9))); at != 0 || err != api.ErrFull {
					t.Errorf("%d bytes are left: Put of %d: %d, error %d", left, left+1, at, err)
				}
			}
			wantLog(t, l, p)
			if left <= 73 {
				add(t, l, p, sized(t, left, 8))
			}
			flush(t, l, p)
			wantLog(t, l, p)
			p.run = 2
			wantLog(t, open(t, d, 1, sectors, 2), p)
		}
	}
}

func TestPutOfFrames(t *testing.T) {
	frames := framesOf(t, samples()...)
	for many := range len(frames) + 1 {
		d, l, p := begun(t, 130, 1, commit(1))
		still := unturned(t, d, "Put")
		if at, err := l.Put(strings.Join(frames[:many], "")); at != 20 || err != api.OK {
			t.Errorf("Put of %d frames: %d, error %d; want 20", many, at, err)
		}
		p.frames = append(p.frames, frames[:many]...)
		wantLog(t, l, p)
		add(t, l, p, commit(2))
		still()
		flush(t, l, p)
		p.run = 2
		l = open(t, d, 1, 130, 2)
		wantLog(t, l, p)
		if many == len(frames) {
			wantPlaces(t, l, p)
		}
	}
}

// The empty text is frames alone: none of them. Nothing is put, and there is room for
// it in a full log.
func TestPutOfTheEmptyText(t *testing.T) {
	d, l, p := begun(t, 1, 1)
	for range 2 {
		still := unturned(t, d, "Put")
		if at, err := l.Put(""); at != p.end() || err != api.OK {
			t.Errorf("Put of the empty text: %d, error %d; want %d", at, err, p.end())
		}
		wantErr(t, "Flush", l.Flush(), api.OK)
		wantLog(t, l, p)
		still()
		if len(p.frames) == 0 {
			add(t, l, p, sized(t, 58, 1))
			flush(t, l, p)
		}
	}
}

func TestPutRefuses(t *testing.T) {
	d, l, p := begun(t, 2, 1, sized(t, 58, 1))
	still := unturned(t, d, "Put")
	a, b := frameOf(t, commit(7)), frameOf(t, sized(t, 40, 2))
	texts := []string{"x", "\x00", strings.Repeat("\x00", 6), strings.Repeat("x", 300), "x" + a, a + "x", a + b + "\x00", a + "x" + b, a[6:], number(0, 6) + a}
	for i := 1; i < len(a); i++ {
		texts = append(texts, a[:i], a[i:], b+a[:i], b+b+a[:i])
	}
	for i := range a {
		c := []byte(a)
		c[i] ^= 1
		texts = append(texts, string(c), b+string(c), string(c)+b, b+b+string(c))
	}
	for _, s := range texts {
		if at, err := l.Put(s); at != 0 || err != api.ErrForm {
			t.Errorf("Put(%q): %d, error %d; want 0, error %d", s, at, err, api.ErrForm)
		}
	}
	for _, s := range []string{b + a, a + a + a + a, frameOf(t, sized(t, 59, 1)), b + frameOf(t, shape(17))} {
		if at, err := l.Put(s); at != 0 || err != api.ErrFull {
			t.Errorf("Put of %d bytes: %d, error %d; want 0, error %d", len(s), at, err, api.ErrFull)
		}
	}
	wantLog(t, l, p)
	if at, err := l.Put(a + a + a); at != 59 || err != api.OK {
		t.Errorf("Put of 57 bytes: %d, error %d; want 59", at, err)
	}
	still()
}

// Which sectors a flush writes, in which order, and what they are, byte for byte.
func TestFlushByteForByte(t *testing.T) {
	for first := 25; first <= 73; first += 3 {
		for second := 25; second <= 73; second++ {
			d, l, p := begun(t, 4, 0x01020304, sized(t, first, 1))
			from := len(p.text()) / part
			add(t, l, p, sized(t, second, 2))
			want := image(t, d)
			behind := (len(p.text()) + part - 1) / part
			acts := d.Acts()
			for i := from; i < behind; i++ {
				want[1+i] = laid(0x01020304, len(partOf(p.text(), i)), partOf(p.text(), i))
			}
			flush(t, l, p)
			wantImage(t, d, want)
			if d.Acts() != acts+behind-from+1 {
				t.Errorf("Flush of %d bytes behind %d: %d acts, want %d", second, first, d.Acts()-acts, behind-from+1)
			}
			wantLog(t, l, p)
			if t.Failed() {
				t.Fatalf("%d bytes, and %d", first, second)
			}
		}
	}
}

// The sectors of a long log, written by several flushes in several runs.
func TestSectorsOfALongLog(t *testing.T) {
	d := newDisk(t, 121)
	p := &plain{sectors: 120}
	want := image(t, d)
	for i, r := range samples() {
		p.run = 10 * (i + 1)
		l := open(t, d, 1, 120, p.run)
		from := len(p.text()) / part
		add(t, l, p, r)
		flush(t, l, p)
		for i := from; i <= len(p.text())/part; i++ {
			s := partOf(p.text(), i)
			if i == from || s != "" {
				want[1+i] = laid(p.run, len(s), s)
			}
		}
		wantImage(t, d, want)
	}
}

func TestFlushOfNothingNew(t *testing.T) {
	for _, many := range []int{0, 1, 2} {
		d, l, p := begun(t, 2, 1)
		for i := range many {
			add(t, l, p, sized(t, 58, i))
			flush(t, l, p)
		}
		still := unturned(t, d, "Flush")
		for range 3 {
			wantErr(t, "Flush", l.Flush(), api.OK)
		}
		still()
		wantLog(t, l, p)
		wantErr(t, "Crash", d.Crash(0), api.OK)
		wantErr(t, "Flush of nothing new, without power", l.Flush(), api.OK)
	}
}

func TestNeed(t *testing.T) {
	d, l, p := begun(t, 5, 1, commit(1), commit(2))
	add(t, l, p, commit(3))
	add(t, l, p, commit(4))
	still := unturned(t, d, "Need")
	for _, lsn := range []int{math.MinInt, -1, 0, 1, 2, 20, 21, 38} {
		wantErr(t, "Need", l.Need(lsn), api.OK)
		wantLog(t, l, p)
	}
	still()
	for _, lsn := range []int{39, 58} {
		d, l, p := begun(t, 5, 1, commit(1), commit(2))
		add(t, l, p, commit(3))
		add(t, l, p, commit(4))
		wantErr(t, "Need", l.Need(lsn), api.OK)
		p.lasting = 4
		wantLog(t, l, p)
		still := unturned(t, d, "Need of what lasts")
		for _, lsn := range []int{39, 58, 76} {
			wantErr(t, "Need", l.Need(lsn), api.OK)
		}
		still()
		lose(t, d, 0)
		p.run = 2
		wantLog(t, open(t, d, 1, 5, 2), p)
	}
}

// A need is as a flush: the same sectors, the same acts.
func TestNeedIsAsFlush(t *testing.T) {
	for many := 25; many <= 73; many++ {
		d, l, p := begun(t, 4, 1, sized(t, many, 1))
		e, m, q := begun(t, 4, 1, sized(t, many, 1))
		add(t, l, p, sized(t, 73, 2))
		add(t, m, q, sized(t, 73, 2))
		wantErr(t, "Need", l.Need(many+1), api.OK)
		flush(t, m, q)
		wantImage(t, d, image(t, e))
		if d.Acts() != e.Acts() || l.Durable() != m.Durable() {
			t.Errorf("Need: %d acts, Durable %d; Flush: %d, %d", d.Acts(), l.Durable(), e.Acts(), m.Durable())
		}
	}
}

// wantDead asks all that writes, and then whether nothing is turned.
func wantDead(t *testing.T, d *disk.Disk, l *wal.Log, p *plain) {
	t.Helper()
	still := unturned(t, d, "what a dead log is asked")
	if at, err := l.Append(commit(9)); at != 0 || err != api.ErrDown {
		t.Errorf("Append to a dead log: %d, error %d", at, err)
	}
	for _, s := range []string{"", frameOf(t, commit(9))} {
		if at, err := l.Put(s); at != 0 || err != api.ErrDown {
			t.Errorf("Put to a dead log: %d, error %d", at, err)
		}
	}
	wantErr(t, "Flush of a dead log", l.Flush(), api.ErrDown)
	wantErr(t, "Need of what does not last of a dead log", l.Need(p.durable()), api.ErrDown)
	for _, lsn := range p.places() {
		wantErr(t, "Cut of a dead log", l.Cut(lsn, p.run+1), api.ErrDown)
	}
	// What is refused for itself is refused so still.
	if at, err := l.Append(api.Rec{}); at != 0 || err != api.ErrArg {
		t.Errorf("Append of no record to a dead log: %d, error %d", at, err)
	}
	if at, err := l.Append(shape(17)); at != 0 || err != api.ErrFull {
		t.Errorf("Append of too much to a dead log: %d, error %d", at, err)
	}
	if at, err := l.Put("x"); at != 0 || err != api.ErrForm {
		t.Errorf("Put of no frame to a dead log: %d, error %d", at, err)
	}
	wantErr(t, "Cut of a dead log in its own run", l.Cut(1, p.run), api.ErrArg)
	wantErr(t, "Cut of a dead log behind its end", l.Cut(p.end()+1, p.run+1), api.ErrRange)
	wantErr(t, "Cut of a dead log within a frame", l.Cut(2, p.run+1), api.ErrForm)
	wantErr(t, "Need of what lasts", l.Need(1), api.OK)
	wantLog(t, l, p)
	wantPlaces(t, l, p)
	still()
}

func TestDeadLog(t *testing.T) {
	for name, do := range map[string]func(l *wal.Log) api.Errno{
		"Flush":        func(l *wal.Log) api.Errno { return l.Flush() },
		"Need":         func(l *wal.Log) api.Errno { return l.Need(39) },
		"Cut":          func(l *wal.Log) api.Errno { return l.Cut(20, 6) },
		"Cut, nothing": func(l *wal.Log) api.Errno { return l.Cut(1, 6) },
		"Cut, more":    func(l *wal.Log) api.Errno { return l.Cut(94, 6) },
	} {
		for acts := range 2 {
			for _, keep := range []uint64{0, all} {
				d, l, p := begun(t, 10, 5, commit(1), commit(2))
				add(t, l, p, sized(t, 55, 3))
				add(t, l, p, sized(t, 55, 4))
				arm(t, d, acts, keep)
				wantErr(t, name, do(l), api.ErrDown)
				wantDead(t, d, l, p)
				start(t, d)
				wantDead(t, d, l, p)
				if t.Failed() {
					t.Fatalf("%s, %d acts, keep %d", name, acts, keep)
				}
			}
		}
	}
}

// The power went, and the log was not told: it is dead from the first one on that
// writes; what it is handed ahead of that it takes.
func TestPowerGoesUnseen(t *testing.T) {
	d, l, p := begun(t, 10, 5, commit(1), commit(2))
	wantErr(t, "Crash", d.Crash(all), api.OK)
	add(t, l, p, commit(3))
	wantLog(t, l, p)
	wantErr(t, "Flush without power", l.Flush(), api.ErrDown)
	wantDead(t, d, l, p)
	start(t, d)
	wantDead(t, d, l, p)

	d, l, p = begun(t, 10, 5, commit(1), commit(2))
	add(t, l, p, commit(3))
	lose(t, d, 0)
	flush(t, l, p)
	wantLog(t, l, p)
	p.run = 6
	wantLog(t, open(t, d, 1, 10, 6), p)
}

// A cut that failed, though the disk has it: the log tells nobody that all lasts.
func TestFlushBehindACutThatFailed(t *testing.T) {
	d, l, p := begun(t, 10, 5, commit(1), commit(2))
	arm(t, d, 1, all)
	wantErr(t, "Cut", l.Cut(20, 6), api.ErrDown)
	start(t, d)
	wantErr(t, "Flush", l.Flush(), api.ErrDown)
	wantLog(t, l, p)
	wantLog(t, open(t, d, 1, 10, 7), &plain{frames: p.frames[:1], lasting: 1, sectors: 10, run: 7})
}

// Promise 8.3.

func TestReadAndBoundAtEveryPlace(t *testing.T) {
	d, l, p := begun(t, 120, 1, samples()[:6]...)
	for _, r := range samples()[6:] {
		add(t, l, p, r)
	}
	still := unturned(t, d, "Read")
	wantPlaces(t, l, p)
	still()
	for i, r := range samples() {
		got, next, err := l.Read(p.places()[i])
		if !reflect.DeepEqual(got, rec.Clean(r)) || next != p.places()[i+1] || err != api.OK {
			t.Errorf("Read(%d): %v, %d, error %d; want %v, %d", p.places()[i], got, next, err, r, p.places()[i+1])
		}
	}
}

func TestReadWithoutPower(t *testing.T) {
	d, l, p := begun(t, 120, 1, samples()...)
	wantErr(t, "Crash", d.Crash(0), api.OK)
	wantLog(t, l, p)
	wantPlaces(t, l, p)
}

func TestFromAtEveryPlace(t *testing.T) {
	_, l, p := begun(t, 20, 1, commit(1), commit(2), sized(t, 58, 3), sized(t, 73, 4), sized(t, 8, 5), sized(t, 25, 6), commit(7))
	for range 2 {
		for lsn := -2; lsn <= p.end()+2; lsn++ {
			for most := -2; most <= p.end()+2; most++ {
				want, err := p.from(lsn, most)
				wantFrom(t, l, lsn, most, want, err)
			}
			for _, most := range []int{math.MinInt, math.MaxInt} {
				want, err := p.from(lsn, most)
				wantFrom(t, l, lsn, most, want, err)
			}
		}
		for _, lsn := range []int{math.MinInt, math.MaxInt} {
			wantFrom(t, l, lsn, 100, "", api.ErrRange)
		}
		// Once more with records that do not last: they are never told.
		add(t, l, p, commit(8))
		add(t, l, p, sized(t, 73, 9))
	}
}

func TestFromByHand(t *testing.T) {
	_, l, p := begun(t, 20, 1, commit(1), commit(2), commit(3))
	add(t, l, p, commit(4))
	a, b, c := p.frames[0], p.frames[1], p.frames[2]
	for _, w := range []struct {
		lsn, most int
		want      string
		err       api.Errno
	}{
		{1, -1, a, api.OK}, {1, 0, a, api.OK}, {1, 1, a, api.OK}, {1, 18, a, api.OK}, {1, 19, a, api.OK}, {1, 37, a, api.OK},
		{1, 38, a + b, api.OK}, {1, 56, a + b, api.OK}, {1, 57, a + b + c, api.OK}, {1, 76, a + b + c, api.OK},
		{20, 19, b, api.OK}, {20, 38, b + c, api.OK}, {39, 0, c, api.OK}, {39, 1000, c, api.OK},
		{58, 0, "", api.OK}, {58, 1000, "", api.OK}, {58, -1, "", api.OK},
		{0, 100, "", api.ErrRange}, {-1, 100, "", api.ErrRange}, {59, 100, "", api.ErrRange}, {77, 100, "", api.ErrRange}, {78, 100, "", api.ErrRange},
		{2, 100, "", api.ErrForm}, {19, 100, "", api.ErrForm}, {57, 0, "", api.ErrForm},
	} {
		wantFrom(t, l, w.lsn, w.most, w.want, w.err)
	}
}

func TestFromOfAnEmptyLog(t *testing.T) {
	_, l, p := begun(t, 2, 1)
	for range 2 {
		wantFrom(t, l, 1, 100, "", api.OK)
		wantFrom(t, l, 1, -1, "", api.OK)
		wantFrom(t, l, 0, 100, "", api.ErrRange)
		wantFrom(t, l, 2, 100, "", api.ErrRange)
		add(t, l, p, commit(1))
	}
}

// What From tells is taken by another log, in parts, and comes to the same.
func TestFromIsPut(t *testing.T) {
	_, l, p := begun(t, 120, 1, samples()...)
	for _, most := range []int{0, 100, 1024, math.MaxInt} {
		d := newDisk(t, 120)
		m := open(t, d, 0, 120, 1)
		for m.End() < l.Durable() {
			s, err := l.From(m.End(), most)
			wantErr(t, "From", err, api.OK)
			if at, err := m.Put(s); at != m.End()-len(s) || err != api.OK || s == "" {
				t.Fatalf("Put of %d bytes: %d, error %d", len(s), at, err)
			}
			wantErr(t, "Flush", m.Flush(), api.OK)
		}
		wantLog(t, m, p)
	}
}

// Within a page's image there may stand what looks like a frame. Read opens it; but no
// frame of the log begins there.
func TestFrameWithinAFrame(t *testing.T) {
	inner := frameOf(t, commit(6))
	text := inner + page(3)[len(inner):]
	d, l, p := begun(t, 10, 1, api.Rec{Kind: api.RecFull, Images: []api.Image{{Page: 2, Text: text}}}, commit(1))
	at := 1 + strings.Index(p.frames[0], inner)
	for run := 2; run <= 3; run++ {
		wantRead(t, l, at, commit(6), at+len(inner), api.OK)
		if l.Bound(at) || l.Bound(at+len(inner)) {
			t.Error("Bound within a frame: true")
		}
		wantFrom(t, l, at, 100, "", api.ErrForm)
		wantErr(t, "Cut within a frame", l.Cut(at, run), api.ErrForm)
		p.run = run
		l = open(t, d, 1, 10, run)
		wantLog(t, l, p)
	}
}

func TestListsAreNotShared(t *testing.T) {
	_, l, p := begun(t, 20, 1)
	images := []api.Image{{Page: 1, Text: page(1)}, {Page: 2, Text: page(2)}}
	table := []api.Active{{Txn: 1, Last: 2}}
	add(t, l, p, api.Rec{Kind: api.RecShape, Images: images})
	add(t, l, p, api.Rec{Kind: api.RecCheck, Table: table})
	images[0], table[0] = api.Image{Page: 9, Text: page(9)}, api.Active{Txn: 9}
	for range 2 {
		wantLog(t, l, p)
		records, places := l.Records()
		records[0].Images[1].Page, records[1].Table[0].Txn = 77, 77
		records[1], places[0], places[1] = api.Rec{}, 77, 78
		r, _, _ := l.Read(1)
		r.Images[0].Page = 77
	}
	wantLog(t, l, p)
	wantPlaces(t, l, p)
	wantErr(t, "Cut", l.Cut(1, 2), api.OK)
}

func TestWhatWasToldIsNotTurnedLater(t *testing.T) {
	_, l, p := begun(t, 20, 1, commit(1), sized(t, 73, 2))
	told, _ := l.From(1, 1000)
	r, _, _ := l.Read(20)
	wantErr(t, "Cut", l.Cut(1, 2), api.OK)
	for i := range 20 {
		_, err := l.Append(sized(t, 50, i+7))
		wantErr(t, "Append", err, api.OK)
	}
	if told != p.text() || !reflect.DeepEqual(r, sized(t, 73, 2)) {
		t.Error("what was told is another thing behind a cut")
	}
}

// Promise 8.4.

func TestCutRefuses(t *testing.T) {
	d, l, p := begun(t, 10, 5, commit(1), commit(2))
	add(t, l, p, commit(3))
	still := unturned(t, d, "Cut")
	for _, c := range []struct {
		lsn, run int
		want     api.Errno
	}{
		{20, 5, api.ErrArg}, {20, 4, api.ErrArg}, {20, 0, api.ErrArg}, {20, -1, api.ErrArg}, {20, math.MinInt, api.ErrArg},
		{20, 1 << 32, api.ErrArg}, {20, math.MaxInt, api.ErrArg}, {58, 5, api.ErrArg}, {1, 5, api.ErrArg},
		{0, 6, api.ErrRange}, {-1, 6, api.ErrRange}, {math.MinInt, 6, api.ErrRange}, {59, 6, api.ErrRange}, {math.MaxInt, maxRun, api.ErrRange},
		{2, 6, api.ErrForm}, {19, 6, api.ErrForm}, {21, maxRun, api.ErrForm}, {57, 6, api.ErrForm},
		{0, 5, api.ErrArg}, {59, 1 << 32, api.ErrArg}, {2, 5, api.ErrArg},
	} {
		if err := l.Cut(c.lsn, c.run); err != c.want {
			t.Errorf("Cut(%d, %d): error %d, want %d", c.lsn, c.run, err, c.want)
		}
	}
	still()
	wantLog(t, l, p)
	flush(t, l, p)
	wantLog(t, l, p)
}

// A log that was cut anywhere, whatever of it lasted: it lasts as it is, its sectors are
// as they should be, and other records stand behind it.
func TestCutAtEveryPlace(t *testing.T) {
	rest := []api.Rec{sized(t, 58, 11), sized(t, 40, 12)}
	recs := []api.Rec{sized(t, 58, 1), commit(2), sized(t, 39, 3), sized(t, 30, 4), shape(1), sized(t, 8, 5), sized(t, 60, 6)}
	for lasting := range len(recs) + 1 {
		for cut := range len(recs) + 1 {
			for _, run := range []int{6, 900, maxRun - 1} {
				d, l, p := begun(t, 12, 5, recs[:lasting]...)
				for _, r := range recs[lasting:] {
					add(t, l, p, r)
				}
				cutAt(t, d, l, p, cut, run)
				for _, r := range rest {
					add(t, l, p, r)
				}
				wantLog(t, l, p)
				flush(t, l, p)
				p.run = maxRun
				wantLog(t, open(t, d, 1, 12, maxRun), p)
				if t.Failed() {
					t.Fatalf("%d frames last, cut to %d in the run %d", lasting, cut, run)
				}
			}
		}
	}
}

// cutAt cuts a log to its first frames, and asks for the sectors: that of the end is
// written, and ahead of it those that did not last.
func cutAt(t *testing.T, d *disk.Disk, l *wal.Log, p *plain, frames, run int) {
	t.Helper()
	want, acts := image(t, d), d.Acts()
	first := (p.durable() - 1) / part
	p.frames, p.lasting, p.run = slices.Clone(p.frames[:frames]), frames, run
	last := len(p.text()) / part
	for i := min(first, last); i <= last && i < p.sectors; i++ {
		want[1+i] = laid(run, len(partOf(p.text(), i)), partOf(p.text(), i))
		acts++
	}
	if min(first, last) < p.sectors {
		acts++
	}
	wantErr(t, "Cut", l.Cut(p.end(), run), api.OK)
	wantImage(t, d, want)
	if d.Acts() != acts {
		t.Errorf("Cut to %d frames: %d acts, want %d", frames, d.Acts(), acts)
	}
	wantLog(t, l, p)
	wantPlaces(t, l, p)
	still := unturned(t, d, "Flush behind a cut")
	wantErr(t, "Flush", l.Flush(), api.OK)
	still()
	// The log of a disk is opened in a copy of it: this one goes on being used.
	e := newDisk(t, d.Size())
	for i, s := range image(t, d) {
		put(t, e, i, s)
	}
	q := *p
	q.run = min(run+1, maxRun)
	wantLog(t, open(t, e, 1, p.sectors, q.run), &q)
}

// A log that is full has no sector in which its end lies.
func TestCutOfAFullLog(t *testing.T) {
	for lasting := range 4 {
		for cut := range 4 {
			d, l, p := begun(t, 3, 5)
			for i := range 3 {
				if i == lasting {
					flush(t, l, p)
				}
				add(t, l, p, sized(t, 58, i))
			}
			if lasting == 3 {
				flush(t, l, p)
			}
			cutAt(t, d, l, p, cut, 6)
			if t.Failed() {
				t.Fatalf("%d frames last, cut to %d", lasting, cut)
			}
		}
	}
}

func TestCutAgainAndAgain(t *testing.T) {
	d, l, p := begun(t, 40, 1, samples()[:8]...)
	for i := len(p.frames); i >= 0; i-- {
		cutAt(t, d, l, p, i, p.run+1)
		wantErr(t, "Cut in the same run", l.Cut(1, p.run), api.ErrArg)
	}
	cutAt(t, d, l, p, 0, maxRun)
	wantErr(t, "Cut behind the greatest run", l.Cut(1, maxRun+1), api.ErrArg)
	wantErr(t, "Cut in the greatest run", l.Cut(1, maxRun), api.ErrArg)
	add(t, l, p, commit(1))
	flush(t, l, p)
	wantLog(t, open(t, d, 1, 40, maxRun), p)
}

// What stood behind the cut fits to what is put there again, to the byte; yet it does
// not count.
func TestNothingBehindACutComesBack(t *testing.T) {
	for many := range 5 {
		d, l, p := begun(t, 6, 1, sized(t, 58, 1), sized(t, 58, 2), sized(t, 58, 3), sized(t, 58, 4), sized(t, 58, 5))
		cutAt(t, d, l, p, many, 2)
		add(t, l, p, sized(t, 58, 9))
		flush(t, l, p)
		p.run = 3
		wantLog(t, open(t, d, 1, 6, 3), p)
	}
}

// Promise 8.5.

func wantNone(t *testing.T, l *wal.Log) {
	t.Helper()
	if l.End() != 0 || l.Durable() != 0 || l.Left() != 0 || l.Run() != 0 {
		t.Errorf("End %d, Durable %d, Left %d, Run %d of no log", l.End(), l.Durable(), l.Left(), l.Run())
	}
	for _, r := range []api.Rec{{}, commit(1), shape(256)} {
		if at, err := l.Append(r); at != 0 || err != api.ErrState {
			t.Errorf("Append to no log: %d, error %d", at, err)
		}
	}
	for _, s := range []string{"", "x", frameOf(t, commit(1))} {
		if at, err := l.Put(s); at != 0 || err != api.ErrState {
			t.Errorf("Put to no log: %d, error %d", at, err)
		}
	}
	wantErr(t, "Flush", l.Flush(), api.ErrState)
	for _, n := range []int{math.MinInt, -1, 0, 1, 2, 20, math.MaxInt} {
		wantErr(t, "Need", l.Need(n), api.ErrState)
		wantRead(t, l, n, api.Rec{}, 0, api.ErrState)
		wantFrom(t, l, n, 100, "", api.ErrState)
		wantFrom(t, l, 1, n, "", api.ErrState)
		wantErr(t, "Cut", l.Cut(n, 5), api.ErrState)
		wantErr(t, "Cut", l.Cut(1, n), api.ErrState)
		if l.Bound(n) {
			t.Errorf("Bound(%d) of no log: true", n)
		}
	}
	if records, places := l.Records(); len(records) != 0 || len(places) != 0 {
		t.Errorf("Records of no log: %v, %v", records, places)
	}
}

func TestNoLog(t *testing.T) {
	wantNone(t, nil)
	wantNone(t, &wal.Log{})
	wantNone(t, new(wal.Log))
}

// A copy is a log that Open did not give; that of which it is one goes on.
func TestCopyOfALog(t *testing.T) {
	_, l, p := begun(t, 5, 1, commit(1))
	c := *l
	wantNone(t, &c)
	add(t, l, p, commit(2))
	flush(t, l, p)
	wantLog(t, l, p)
}

// Promise 8.6.

// scene is a log on a disk, and which of its frames may be there behind a loss: as many
// as one of may.
type scene struct {
	d   *disk.Disk
	l   *wal.Log
	p   *plain
	may []int
}

func between(least, most int) []int {
	var l []int
	for i := least; i <= most; i++ {
		l = append(l, i)
	}
	return l
}

// everyLoss does something from the same beginning on, with a loss at each of its acts,
// and with each choice of the sectors that are kept then.
func everyLoss(t *testing.T, begin func() *scene, do func(s *scene) api.Errno, check func(s *scene)) {
	t.Helper()
	for acts := 0; ; acts++ {
		for keep := range uint64(1) << min(acts, 6) {
			s := begin()
			arm(t, s.d, acts, keep)
			err := do(s)
			if err == api.OK {
				s.d.Calm()
				check(s)
				return
			}
			wantErr(t, "the call at whose act the power goes", err, api.ErrDown)
			start(t, s.d)
			check(s)
			if t.Failed() {
				t.Fatalf("a loss at the act %d, keep %b", acts, keep)
			}
		}
	}
}

// wantOneOf opens the log of a scene in a greater run, and asks whether it has as many
// frames as it may; then it goes on: with another frame, and opened once more, with a
// loss at each act of that.
func wantOneOf(t *testing.T, s *scene) {
	t.Helper()
	frames := stands(t, s.d, 1, s.p.sectors, s.p.run+7)
	l := open(t, s.d, 1, s.p.sectors, s.p.run+7)
	if !slices.Contains(s.may, len(frames)) {
		t.Errorf("%d frames, want one of %v", len(frames), s.may)
	}
	p := &plain{frames: slices.Clone(s.p.frames[:min(len(frames), len(s.p.frames))]), sectors: s.p.sectors, run: s.p.run + 7}
	p.lasting = len(p.frames)
	wantLog(t, l, p)
	r := sized(t, 61, 25)
	if l.Left() >= 61 {
		add(t, l, p, r)
		flush(t, l, p)
	}
	p.run++
	wantLog(t, open(t, s.d, 1, p.sectors, p.run), p)
}

// beginnings are logs with frames that last, of two runs, and others that do not.
func beginnings(t *testing.T) []func() *scene {
	t.Helper()
	var l []func() *scene
	recs := []api.Rec{sized(t, 58, 1), commit(2), sized(t, 39, 3), sized(t, 30, 4), sized(t, 73, 5), sized(t, 60, 6), sized(t, 40, 7)}
	for older := range 4 {
		for lasting := older; lasting <= 5; lasting++ {
			for _, many := range []int{5, 7} {
				l = append(l, func() *scene {
					d, _, p := begun(t, 7, 1, recs[:older]...)
					p.run = 2
					log := open(t, d, 1, 7, 2)
					for _, r := range recs[older:lasting] {
						add(t, log, p, r)
					}
					flush(t, log, p)
					for _, r := range recs[lasting:many] {
						add(t, log, p, r)
					}
					return &scene{d: d, l: log, p: p}
				})
			}
		}
	}
	return l
}

func TestLossesWithinFlushAndNeed(t *testing.T) {
	for _, begin := range beginnings(t) {
		for name, do := range map[string]func(s *scene) api.Errno{
			"Flush": func(s *scene) api.Errno { return s.l.Flush() },
			"Need":  func(s *scene) api.Errno { return s.l.Need(s.p.durable()) },
		} {
			everyLoss(t, begin, func(s *scene) api.Errno {
				s.may = between(s.p.lasting, len(s.p.frames))
				err := do(s)
				if err == api.OK {
					s.may = []int{len(s.p.frames)}
				}
				return err
			}, func(s *scene) { wantOneOf(t, s) })
			if t.Failed() {
				t.Fatal(name)
			}
		}
	}
}

func TestLossesWithinCut(t *testing.T) {
	for _, begin := range beginnings(t) {
		for cut := range begin().p.places() {
			everyLoss(t, begin, func(s *scene) api.Errno {
				s.may = between(s.p.lasting, max(cut, s.p.lasting))
				if cut < s.p.lasting {
					s.may = []int{cut, s.p.lasting}
				}
				err := s.l.Cut(s.p.places()[cut], 5)
				if err == api.OK {
					s.may = []int{cut}
				}
				return err
			}, func(s *scene) { wantOneOf(t, s) })
			if t.Failed() {
				t.Fatalf("cut to %d", cut)
			}
		}
	}
}

// A log is opened behind a loss within a flush, with a loss within that, too.
func TestLossesWithinOpen(t *testing.T) {
	for _, begin := range beginnings(t) {
		for keep := range uint64(8) {
			everyLoss(t, func() *scene {
				s := begin()
				arm(t, s.d, 3, keep)
				s.may = between(s.p.lasting, len(s.p.frames))
				if s.l.Flush() == api.ErrDown {
					start(t, s.d)
				}
				s.d.Calm()
				return s
			}, func(s *scene) api.Errno {
				there := len(stands(t, s.d, 1, 7, 6))
				_, err := wal.Open(s.d, 1, 7, 6)
				if !slices.Contains(s.may, there) {
					t.Errorf("%d frames, want one of %v", there, s.may)
				}
				s.may = []int{there} // what is there is there in the next run still
				return err
			}, func(s *scene) { wantOneOf(t, s) })
		}
	}
}

func TestOpenIsRefusedByALoss(t *testing.T) {
	for acts := range 2 {
		d, _, _ := begun(t, 7, 1, commit(1))
		arm(t, d, acts, all)
		if l, err := wal.Open(d, 1, 7, 2); l != nil || err != api.ErrDown {
			t.Errorf("Open, with a loss: %v, error %d", l, err)
		}
	}
}

// world is a log that is used at random, and losses with it.
type world struct {
	scene
	rnd    *rand.Rand
	serial int
	down   bool
}

// next is a record unlike all others.
func (w *world) next(t *testing.T) api.Rec {
	t.Helper()
	w.serial++
	r := sized(t, 25+w.rnd.Intn(49), w.serial)
	switch w.rnd.Intn(8) {
	case 0:
		r = shape(1)
		r.Images[0].Page = w.serial
	case 1, 2:
		r = commit(w.serial)
	case 3:
		r = api.Rec{Kind: api.RecEpoch, Epoch: w.serial}
	}
	return r
}

// told holds an error of a call that writes against whether the power went at it.
func (w *world) told(t *testing.T, what string, err api.Errno) bool {
	t.Helper()
	w.down = !w.d.Up()
	want := api.OK
	if w.down {
		want = api.ErrDown
	}
	wantErr(t, what, err, want)
	return err == api.OK
}

func (w *world) append(t *testing.T) {
	t.Helper()
	var l []api.Rec
	for range 1 + w.rnd.Intn(3) {
		l = append(l, w.next(t))
	}
	frames := framesOf(t, l...)
	text := strings.Join(frames, "")
	at, want := w.p.end(), api.OK
	if len(text) > w.p.sectors*part-len(w.p.text()) {
		at, want = 0, api.ErrFull
	}
	got, err := 0, api.OK
	if len(l) == 1 {
		got, err = w.l.Append(l[0])
	} else {
		got, err = w.l.Put(text)
	}
	if got != at || err != want {
		t.Errorf("%d frames more: %d, error %d; want %d, error %d", len(l), got, err, at, want)
	}
	if err == api.OK {
		w.p.frames = append(w.p.frames, frames...)
	}
}

func (w *world) flush(t *testing.T) {
	t.Helper()
	w.may = between(w.p.lasting, len(w.p.frames))
	if w.rnd.Intn(2) == 0 {
		if w.told(t, "Flush", w.l.Flush()) {
			w.p.lasting = len(w.p.frames)
		}
		return
	}
	lsn := w.rnd.Intn(w.p.end())
	if w.told(t, "Need", w.l.Need(lsn)) && lsn >= w.p.durable() {
		w.p.lasting = len(w.p.frames)
	}
}

func (w *world) cut(t *testing.T) {
	t.Helper()
	to, run := w.rnd.Intn(len(w.p.frames)+1), w.p.run+1+w.rnd.Intn(3)
	w.may = between(w.p.lasting, max(to, w.p.lasting))
	if to < w.p.lasting {
		w.may = []int{to, w.p.lasting}
	}
	if w.told(t, "Cut", w.l.Cut(w.p.places()[to], run)) {
		w.p.frames, w.p.lasting, w.p.run = w.p.frames[:to:to], to, run
	} else {
		w.p.run = run // what is opened next needs a greater one
	}
}

// again opens the log behind a loss, or without one; at times the power goes at that.
func (w *world) again(t *testing.T) {
	t.Helper()
	if w.down {
		start(t, w.d)
		if w.rnd.Intn(3) == 0 {
			arm(t, w.d, w.rnd.Intn(3), w.rnd.Uint64())
		}
	} else {
		w.may = []int{w.p.lasting}
	}
	w.p.run += 1 + w.rnd.Intn(3)
	there := len(stands(t, w.d, 1, w.p.sectors, w.p.run))
	if !slices.Contains(w.may, there) {
		t.Errorf("%d frames, want one of %v", there, w.may)
	}
	w.may = []int{there}
	l, err := wal.Open(w.d, 1, w.p.sectors, w.p.run)
	if w.told(t, "Open", err) {
		w.l, w.p.frames, w.p.lasting = l, w.p.frames[:there:there], there
	}
}

func (w *world) step(t *testing.T) {
	t.Helper()
	switch n := w.rnd.Intn(100); {
	case w.down || n < 5:
		w.again(t)
	case n < 60:
		w.append(t)
	case n < 75:
		w.flush(t)
	case n < 82:
		w.cut(t)
	case n < 87:
		w.may = []int{w.p.lasting}
		wantErr(t, "Crash", w.d.Crash(w.rnd.Uint64()), api.OK)
		w.down = true
	default:
		arm(t, w.d, w.rnd.Intn(7), w.rnd.Uint64())
	}
}

func TestManySteps(t *testing.T) {
	for seed := range int64(60) {
		rnd := rand.New(rand.NewSource(seed))
		sectors := 1 + rnd.Intn(25)
		d := newDisk(t, sectors+2)
		p := &plain{sectors: sectors, run: 1}
		w := &world{scene: scene{d: d, l: open(t, d, 1, sectors, 1), p: p}, rnd: rnd}
		for i := range 600 {
			w.step(t)
			if !w.down {
				wantLog(t, w.l, w.p)
			}
			if i%50 == 0 && !w.down {
				wantPlaces(t, w.l, w.p)
			}
			if t.Failed() {
				t.Fatalf("seed %d, step %d", seed, i)
			}
		}
		if s, _ := d.Read(0); d.Up() && s != noughts() {
			t.Errorf("the sector ahead of the log: %q", s)
		}
		if s, _ := d.Read(sectors + 1); d.Up() && s != noughts() {
			t.Errorf("the sector behind the log: %q", s)
		}
	}
}

// The same steps come to the same bytes.
func TestNothingHangsOnChance(t *testing.T) {
	var before []string
	for range 3 {
		d, l, p := begun(t, 120, 1, samples()...)
		wantErr(t, "Cut", l.Cut(p.places()[4], 2), api.OK)
		_, err := l.Append(commit(1))
		wantErr(t, "Append", err, api.OK)
		wantErr(t, "Flush", l.Flush(), api.OK)
		now := image(t, d)
		if before != nil && !slices.Equal(before, now) {
			t.Error("the same steps, other sectors")
		}
		before = now
	}
}
