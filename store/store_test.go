package store_test

import (
	"math"
	"math/rand"
	"slices"
	"strings"
	"testing"

	"gharry/api"
	"gharry/disk"
	"gharry/store"
)

const (
	all    = math.MaxUint64
	maxLsn = 1<<48 - 1
	head   = 8  // bytes of a sector that are not the page's
	part   = 56 // bytes of a page in a sector
)

func newDisk(t *testing.T, sectors int) *disk.Disk {
	t.Helper()
	d, err := disk.New(sectors)
	if err != api.OK {
		t.Fatalf("disk.New(%d): error %d", sectors, err)
	}
	return d
}

func made(t *testing.T, d *disk.Disk, base, pages, gen int) *store.Store {
	t.Helper()
	s, err := store.New(d, base, pages, gen)
	if s == nil || err != api.OK {
		t.Fatalf("New(%d, %d, %d): %v, error %d", base, pages, gen, s, err)
	}
	return s
}

// text is a page whose four parts are unlike one another, and unlike those of another
// seed (of 256).
func text(seed int) string {
	b := make([]byte, api.PageBytes)
	for i := range b {
		b[i] = byte(seed*31 + i)
	}
	return string(b)
}

// laid is a sector, written by hand: the generation, the record, the bytes behind.
func laid(gen, lsn int, bytes string) string {
	b := []byte{byte(gen >> 8), byte(gen)}
	for shift := 40; shift >= 0; shift -= 8 {
		b = append(b, byte(lsn>>shift))
	}
	return string(b) + bytes
}

// cut is the i-th part of a page.
func cut(p string, i int) string { return p[part*i : part*i+part] }

func noughts() string { return strings.Repeat("\x00", api.SectorBytes) }

func wantErr(t *testing.T, what string, got, want api.Errno) {
	t.Helper()
	if got != want {
		t.Errorf("%s: error %d, want %d", what, got, want)
	}
}

func write(t *testing.T, s *store.Store, id int, p string, lsn int) {
	t.Helper()
	if err := s.Write(id, p, lsn); err != api.OK {
		t.Fatalf("Write(%d, .., %d): error %d", id, lsn, err)
	}
}

func sync(t *testing.T, s *store.Store) {
	t.Helper()
	if err := s.Sync(); err != api.OK {
		t.Fatalf("Sync: error %d", err)
	}
}

// put writes a sector by the disk alone.
func put(t *testing.T, d *disk.Disk, i int, bytes string) {
	t.Helper()
	if err := d.Write(i, bytes); err != api.OK {
		t.Fatalf("disk: Write(%d): error %d", i, err)
	}
}

// lose lets the power go, and on again.
func lose(t *testing.T, d *disk.Disk, keep uint64) {
	t.Helper()
	if err := d.Crash(keep); err != api.OK {
		t.Fatalf("Crash: error %d", err)
	}
	start(t, d)
}

func start(t *testing.T, d *disk.Disk) {
	t.Helper()
	if err := d.Start(); err != api.OK {
		t.Fatalf("Start: error %d", err)
	}
}

func wantSector(t *testing.T, d *disk.Disk, i int, want string) {
	t.Helper()
	if got, err := d.Read(i); got != want || err != api.OK {
		t.Errorf("sector %d: error %d\n got %q\nwant %q", i, err, got, want)
	}
}

func wantPage(t *testing.T, s *store.Store, id int, p string, lsn int) {
	t.Helper()
	if got, made, err := s.Read(id); got != p || made != lsn || err != api.OK {
		t.Errorf("Read(%d): record %d, error %d; want record %d\n got %q\nwant %q", id, made, err, lsn, got, p)
	}
	if !s.Is(id, lsn) {
		t.Errorf("Is(%d, %d): false", id, lsn)
	}
	for _, other := range []int{lsn + 1, lsn - 1, lsn ^ 1<<47, lsn + 1<<48, -lsn - 1, math.MinInt, math.MaxInt} {
		if s.Is(id, other) {
			t.Errorf("Is(%d, %d): true of a page of the record %d", id, other, lsn)
		}
	}
}

func wantNoPage(t *testing.T, s *store.Store, id int, want api.Errno) {
	t.Helper()
	if got, lsn, err := s.Read(id); got != "" || lsn != 0 || err != want {
		t.Errorf("Read(%d): %q, record %d, error %d; want none, 0, error %d", id, got, lsn, err, want)
	}
	for _, lsn := range []int{0, 1, -1, 5, 7, 9, maxLsn, maxLsn + 1, math.MinInt, math.MaxInt} {
		if s.Is(id, lsn) {
			t.Errorf("Is(%d, %d): true, and no page", id, lsn)
		}
	}
}

// wantUnturned asks whether a call has left the disk as it was.
func wantUnturned(t *testing.T, d *disk.Disk, acts int, waiting ...int) {
	t.Helper()
	if got := d.Waiting(); d.Acts() != acts || !slices.Equal(got, waiting) {
		t.Errorf("%d acts, waiting %v; want %d, %v", d.Acts(), got, acts, waiting)
	}
}

// Promise 6.1.

func TestNew(t *testing.T) {
	for _, gen := range []int{1, 2, 255, 256, 65534, 65535} {
		for _, pages := range []int{1, 2, 199, 200} {
			for _, base := range []int{0, 1, 7, 4000} {
				s := made(t, newDisk(t, base+4*pages+1), base, pages, gen)
				if s.Pages() != pages || s.Gen() != gen {
					t.Errorf("Pages %d, Gen %d; want %d, %d", s.Pages(), s.Gen(), pages, gen)
				}
			}
		}
	}
}

func TestNewWritesNothing(t *testing.T) {
	d := newDisk(t, 9)
	put(t, d, 2, "old")
	if err := d.Sync(); err != api.OK {
		t.Fatal(err)
	}
	put(t, d, 2, "new")
	put(t, d, 8, "new")
	wantErr(t, "Arm", d.Arm(0, 0), api.OK)
	for _, gen := range []int{1, 9, 65535} {
		made(t, d, 1, 2, gen)
	}
	if s, err := store.New(d, 2, 2, 1); s != nil || err != api.ErrRange {
		t.Errorf("New: %v, error %d; want none, error %d", s, err, api.ErrRange)
	}
	if !d.Up() || d.Downs() != 0 {
		t.Error("New did something at which the power goes")
	}
	wantUnturned(t, d, 4, 2, 8)
	lose(t, d, 0)
	for i := range 9 {
		want := noughts()
		if i == 2 {
			want = "old" + want[3:]
		}
		wantSector(t, d, i, want)
	}
}

func TestNewRefusesArguments(t *testing.T) {
	d := newDisk(t, api.MaxSectors)
	cases := []struct {
		d                *disk.Disk
		base, pages, gen int
	}{
		{nil, 0, 1, 1}, {nil, -1, 0, 0}, {nil, math.MaxInt, 200, 65535},
		{d, 0, 1, 0}, {d, 0, 1, -1}, {d, 0, 1, 65536}, {d, 0, 1, 65537}, {d, 0, 1, 1 << 17},
		{d, 0, 1, math.MinInt}, {d, 0, 1, math.MaxInt},
		{d, -1, 1, 1}, {d, -4, 1, 1}, {d, math.MinInt, 1, 1}, {d, math.MinInt + 1, 200, 1},
		{d, 0, 0, 1}, {d, 0, -1, 1}, {d, 0, 201, 1}, {d, 0, 1 << 62, 1}, {d, 0, 1<<62 + 1, 1},
		{d, 0, math.MinInt, 1}, {d, 0, math.MaxInt, 1},
	}
	for _, c := range cases {
		if s, err := store.New(c.d, c.base, c.pages, c.gen); s != nil || err != api.ErrArg {
			t.Errorf("New(%v, %d, %d, %d): %v, error %d; want none, error %d", c.d != nil, c.base, c.pages, c.gen, s, err, api.ErrArg)
		}
	}
}

func TestNewRefusesRanges(t *testing.T) {
	for _, pages := range []int{1, 2, 50, 200} {
		for _, base := range []int{0, 1, 3, 4, 100} {
			made(t, newDisk(t, base+4*pages), base, pages, 1)
			for less := 1; less <= 4 && base+4*pages > less; less++ {
				wantNoRoom(t, newDisk(t, base+4*pages-less), base, pages)
			}
		}
	}
}

func TestNewAtTheGreatestDisk(t *testing.T) {
	d := newDisk(t, api.MaxSectors)
	made(t, d, 0, 200, 1)
	made(t, d, api.MaxSectors-800, 200, 1)
	made(t, d, api.MaxSectors-4, 1, 1)
	wantNoRoom(t, d, api.MaxSectors-799, 200)
	wantNoRoom(t, d, api.MaxSectors-3, 1)
}

func TestNewBehindTheDisk(t *testing.T) {
	for _, size := range []int{1, 3, 8, api.MaxSectors} {
		d := newDisk(t, size)
		bases := []int{size - 1, size, size + 1, 1 << 31, 1 << 32, 1 << 62, math.MaxInt / 4, math.MaxInt / 2}
		for n := range 10 {
			bases = append(bases, math.MaxInt-n, math.MaxInt-800+n-5, math.MaxInt-size-n)
		}
		for _, base := range bases {
			wantNoRoom(t, d, base, 1)
			wantNoRoom(t, d, base, 2)
			wantNoRoom(t, d, base, 200)
		}
	}
}

func wantNoRoom(t *testing.T, d *disk.Disk, base, pages int) {
	t.Helper()
	if s, err := store.New(d, base, pages, 1); s != nil || err != api.ErrRange {
		t.Errorf("New(of %d, %d, %d, 1): %v, error %d; want none, error %d", d.Size(), base, pages, s, err, api.ErrRange)
	}
}

func TestNewTellsArgumentsFirst(t *testing.T) {
	d := newDisk(t, 1)
	for _, c := range [][3]int{{math.MaxInt, 1, 0}, {math.MaxInt, 1, 65536}, {0, 201, 1}, {9, 0, 1}, {-1, 200, 1}} {
		if s, err := store.New(d, c[0], c[1], c[2]); s != nil || err != api.ErrArg {
			t.Errorf("New(d, %v): %v, error %d; want none, error %d", c, s, err, api.ErrArg)
		}
	}
}

// A disk that disk.New did not give has no sectors.
func TestNewOfADiskThatNobodyMade(t *testing.T) {
	wantNoRoom(t, &disk.Disk{}, 0, 1)
	if s, err := store.New(&disk.Disk{}, 0, 1, 0); s != nil || err != api.ErrArg {
		t.Errorf("New: %v, error %d; want none, error %d", s, err, api.ErrArg)
	}
}

func TestNewWhileThePowerIsOff(t *testing.T) {
	d := newDisk(t, 8)
	write(t, made(t, d, 0, 2, 3), 1, text(1), 5)
	wantErr(t, "Crash", d.Crash(all), api.OK)
	s := made(t, d, 0, 2, 3)
	if s.Pages() != 2 || s.Gen() != 3 {
		t.Errorf("Pages %d, Gen %d; want 2, 3", s.Pages(), s.Gen())
	}
	wantNoRoom(t, d, 1, 2)
	wantNoPage(t, s, 1, api.ErrDown)
	start(t, d)
	wantPage(t, s, 1, text(1), 5)
}

// Promise 6.2.

func TestExample(t *testing.T) {
	d := newDisk(t, 41)
	s := made(t, d, 1, 10, 3)
	write(t, s, 4, text(1), 7)
	sync(t, s)
	wantPage(t, s, 4, text(1), 7)
	write(t, s, 4, text(2), 9)
	lose(t, d, 3)
	wantNoPage(t, s, 4, api.ErrTorn)
}

func TestSectorsByteForByte(t *testing.T) {
	for _, gen := range []int{1, 3, 255, 256, 258, 65535} {
		for _, lsn := range []int{0, 1, 255, 256, 1<<32 + 7, 0x010203040506, 1 << 47, maxLsn - 1, maxLsn} {
			d := newDisk(t, 16)
			s := made(t, d, 3, 3, gen)
			write(t, s, 1, text(lsn), lsn)
			for i := range 16 {
				want := noughts()
				if i >= 7 && i < 11 {
					want = laid(gen, lsn, cut(text(lsn), i-7))
				}
				wantSector(t, d, i, want)
			}
			wantUnturned(t, d, 4, 7, 8, 9, 10)
			wantPage(t, s, 1, text(lsn), lsn)
		}
	}
}

func TestSectorOfPlainBytes(t *testing.T) {
	d := newDisk(t, 5)
	s := made(t, d, 1, 1, 0x0102)
	write(t, s, 0, strings.Repeat("a", 56)+strings.Repeat("b", 56)+strings.Repeat("c", 56)+strings.Repeat("d", 56), 0x030405060708)
	for i, b := range []string{"a", "b", "c", "d"} {
		wantSector(t, d, 1+i, "\x01\x02\x03\x04\x05\x06\x07\x08"+strings.Repeat(b, 56))
	}
}

func TestEveryPageHasItsSectors(t *testing.T) {
	for _, base := range []int{0, 5} {
		d := newDisk(t, base+801)
		s := made(t, d, base, 200, 9)
		for _, id := range rand.New(rand.NewSource(1)).Perm(200) {
			wantNoPage(t, s, id, api.ErrNone)
			write(t, s, id, text(id), id+1)
		}
		sync(t, s)
		lose(t, d, 0)
		for id := range 200 {
			wantPage(t, s, id, text(id), id+1)
			for i := range 4 {
				wantSector(t, d, base+4*id+i, laid(9, id+1, cut(text(id), i)))
			}
		}
		for i := range base {
			wantSector(t, d, i, noughts())
		}
		wantSector(t, d, base+800, noughts())
	}
}

func TestWritesInOrder(t *testing.T) {
	for acts := range 5 {
		d := newDisk(t, 12)
		s := made(t, d, 2, 2, 3)
		write(t, s, 1, text(1), 7)
		sync(t, s)
		wantErr(t, "Arm", d.Arm(acts, all), api.OK)
		want := api.ErrDown
		if acts == 4 {
			want = api.OK
		}
		wantErr(t, "Write", s.Write(1, text(2), 9), want)
		if acts == 4 {
			wantErr(t, "Sync", s.Sync(), api.ErrDown)
		}
		if d.Up() || d.Downs() != 1 || d.Acts() != 5+acts {
			t.Errorf("up %v, %d downs, %d acts behind %d that go well", d.Up(), d.Downs(), d.Acts(), acts)
		}
		start(t, d)
		for i := range 4 {
			if i < acts {
				wantSector(t, d, 6+i, laid(3, 9, cut(text(2), i)))
			} else {
				wantSector(t, d, 6+i, laid(3, 7, cut(text(1), i)))
			}
		}
		switch acts {
		case 0:
			wantPage(t, s, 1, text(1), 7)
		case 4:
			wantPage(t, s, 1, text(2), 9)
		default:
			wantNoPage(t, s, 1, api.ErrTorn)
		}
	}
}

func TestLastsWhenSynced(t *testing.T) {
	d := newDisk(t, 8)
	s := made(t, d, 0, 2, 1)
	write(t, s, 0, text(1), 1)
	wantPage(t, s, 0, text(1), 1)
	lose(t, d, 0)
	wantNoPage(t, s, 0, api.ErrNone)
	write(t, s, 0, text(2), 2)
	write(t, s, 1, text(3), 3)
	wantUnturned(t, d, 12, 0, 1, 2, 3, 4, 5, 6, 7)
	sync(t, s)
	wantUnturned(t, d, 13)
	lose(t, d, 0)
	wantPage(t, s, 0, text(2), 2)
	wantPage(t, s, 1, text(3), 3)
}

func TestSyncOfTheDiskIsTheSame(t *testing.T) {
	d := newDisk(t, 9)
	s := made(t, d, 0, 2, 1)
	write(t, s, 1, text(1), 1)
	wantErr(t, "disk: Sync", d.Sync(), api.OK)
	put(t, d, 8, "x")
	sync(t, s)
	lose(t, d, 0)
	wantPage(t, s, 1, text(1), 1)
	wantSector(t, d, 8, "x"+noughts()[1:])
}

func TestSyncTellsTheDisksError(t *testing.T) {
	d := newDisk(t, 4)
	s := made(t, d, 0, 1, 1)
	write(t, s, 0, text(1), 1)
	wantErr(t, "Arm", d.Arm(0, 0b1111), api.OK)
	wantErr(t, "Sync at which the power goes", s.Sync(), api.ErrDown)
	wantErr(t, "Sync while it is off", s.Sync(), api.ErrDown)
	start(t, d)
	wantPage(t, s, 0, text(1), 1)
	wantErr(t, "Sync", s.Sync(), api.OK)
}

func TestWrittenAgain(t *testing.T) {
	d := newDisk(t, 4)
	s := made(t, d, 0, 1, 1)
	// A record may be less than the one ahead: the store does not look at it.
	for n, lsn := range []int{5, 6, maxLsn, 0, 5} {
		write(t, s, 0, text(n), lsn)
		wantPage(t, s, 0, text(n), lsn)
	}
	sync(t, s)
	wantPage(t, s, 0, text(4), 5)
}

// What a page has in it is nobody's care here: 224 noughts are a page, too.
func TestAnyBytesAreKept(t *testing.T) {
	d := newDisk(t, 4)
	s := made(t, d, 0, 1, 1)
	for _, b := range []string{"\x00", "\xff", "a", "\x80"} {
		p := strings.Repeat(b, api.PageBytes)
		write(t, s, 0, p, 0)
		wantPage(t, s, 0, p, 0)
	}
}

func TestWriteRefuses(t *testing.T) {
	whole := text(1)
	texts := map[int]string{0: "", 1: "a", 56: whole[:56], 223: whole[:223], 225: whole + "x", 448: whole + whole}
	badIds := []int{-1, 3, 4, -4, 200, 1 << 62, math.MinInt, math.MaxInt}
	badLsns := []int{-1, maxLsn + 1, -maxLsn, 1 << 62, math.MinInt, math.MaxInt}
	d := newDisk(t, 20)
	s := made(t, d, 4, 3, 3)
	write(t, s, 1, whole, 5)
	wantErr(t, "Arm", d.Arm(0, 0), api.OK)
	for _, id := range badIds {
		wantErr(t, "no page", s.Write(id, whole, 1), api.ErrRange)
		for _, p := range texts {
			wantErr(t, "no page, no text", s.Write(id, p, 1), api.ErrRange)
			wantErr(t, "no page, no text, no record", s.Write(id, p, -1), api.ErrRange)
		}
		wantNoPage(t, s, id, api.ErrRange)
	}
	for id := range 3 {
		for n, p := range texts {
			if err := s.Write(id, p, 1); err != api.ErrForm {
				t.Errorf("Write of %d bytes: error %d, want %d", n, err, api.ErrForm)
			}
			for _, lsn := range badLsns {
				wantErr(t, "no text, no record", s.Write(id, p, lsn), api.ErrForm)
			}
		}
		for _, lsn := range badLsns {
			wantErr(t, "no record", s.Write(id, whole, lsn), api.ErrRange)
		}
	}
	wantUnturned(t, d, 4, 8, 9, 10, 11)
	wantPage(t, s, 1, whole, 5)
	wantNoPage(t, s, 0, api.ErrNone)
	wantNoPage(t, s, 2, api.ErrNone)
	if !d.Up() {
		t.Error("what is refused was an act of the disk")
	}
}

func TestWhileThePowerIsOff(t *testing.T) {
	d := newDisk(t, 12)
	s := made(t, d, 0, 3, 3)
	write(t, s, 0, text(1), 5)
	write(t, s, 1, text(2), 6)
	lose(t, d, 0b00111111) // page 1 is torn, page 2 was never written
	wantErr(t, "Crash", d.Crash(0), api.OK)
	for id := range 3 {
		wantErr(t, "Write", s.Write(id, text(3), 7), api.ErrDown)
		wantErr(t, "Write of no page", s.Write(id-3, text(3), 7), api.ErrRange)
		wantErr(t, "Write of no text", s.Write(id, "a", 7), api.ErrForm)
		wantErr(t, "Write of no record", s.Write(id, text(3), -1), api.ErrRange)
		wantErr(t, "Write of no record", s.Write(id, text(3), maxLsn+1), api.ErrRange)
		wantNoPage(t, s, id, api.ErrDown)
		wantNoPage(t, s, id-3, api.ErrRange)
		wantNoPage(t, s, id+3, api.ErrRange)
	}
	wantErr(t, "Sync", s.Sync(), api.ErrDown)
	if s.Pages() != 3 || s.Gen() != 3 {
		t.Errorf("Pages %d, Gen %d; want 3, 3", s.Pages(), s.Gen())
	}
	wantUnturned(t, d, 8)
	start(t, d)
	wantPage(t, s, 0, text(1), 5)
	wantNoPage(t, s, 1, api.ErrTorn)
	wantNoPage(t, s, 2, api.ErrNone)
}

func TestReadIsNoAct(t *testing.T) {
	d := newDisk(t, 8)
	s := made(t, d, 0, 2, 3)
	write(t, s, 0, text(1), 5)
	wantErr(t, "Arm", d.Arm(0, 0), api.OK)
	for range 3 {
		wantPage(t, s, 0, text(1), 5)
		wantNoPage(t, s, 1, api.ErrNone)
		wantNoPage(t, s, 2, api.ErrRange)
	}
	wantUnturned(t, d, 4, 0, 1, 2, 3)
	if !d.Up() {
		t.Error("Read was an act of the disk")
	}
}

// What stands on a disk is read, whoever wrote it there.
func TestReadOfSectorsLaidByHand(t *testing.T) {
	d := newDisk(t, 9)
	for i := range 4 {
		put(t, d, 5+i, laid(258, 1<<40+3, cut(text(8), i)))
	}
	wantPage(t, made(t, d, 1, 2, 258), 1, text(8), 1<<40+3)
	wantNoPage(t, made(t, d, 1, 2, 257), 1, api.ErrNone)
	// The sectors hang on base, and nothing tells another one's from them.
	wantPage(t, made(t, d, 5, 1, 258), 0, text(8), 1<<40+3)
	wantNoPage(t, made(t, d, 0, 2, 258), 1, api.ErrTorn)
}

// Of a disk's noughts, of others' generations, torn ones too: none is the store's.
func TestNoSectorOfTheGeneration(t *testing.T) {
	for _, gens := range [][4]int{{0, 0, 0, 0}, {2, 2, 2, 2}, {4, 4, 4, 4}, {1, 2, 4, 5}, {0, 0, 0, 2}, {0x0300, 0x0103, 0x0302, 0x8003}} {
		for _, lsns := range [][4]int{{0, 0, 0, 0}, {7, 7, 7, 7}, {6, 7, 8, 9}, {3, 3, 3, 3 << 40}} {
			d := newDisk(t, 4)
			for i := range 4 {
				put(t, d, i, laid(gens[i], lsns[i], cut(text(1), i)))
			}
			wantNoPage(t, made(t, d, 0, 1, 3), 0, api.ErrNone)
		}
	}
}

func TestSomeSectorsOfTheGeneration(t *testing.T) {
	for _, other := range []int{0, 2, 4, 0x0103, 0x0300} {
		for some := range 16 {
			d := newDisk(t, 4)
			for i := range 4 {
				gen := other
				if some&(1<<i) != 0 {
					gen = 3
				}
				put(t, d, i, laid(gen, 7, cut(text(1), i)))
			}
			s := made(t, d, 0, 1, 3)
			switch some {
			case 0:
				wantNoPage(t, s, 0, api.ErrNone)
			case 15:
				wantPage(t, s, 0, text(1), 7)
			default:
				wantNoPage(t, s, 0, api.ErrTorn)
			}
		}
	}
}

// One bit of the first 8 bytes of one sector, or of three of them, is enough.
func TestSectorsPartInOneBit(t *testing.T) {
	for bit := range 8 * head {
		for some := range 16 {
			d := newDisk(t, 4)
			for i := range 4 {
				b := []byte(laid(0x0303, 0x070707070707, cut(text(1), i)))
				if some&(1<<i) != 0 {
					b[bit/8] ^= 1 << (bit % 8)
				}
				put(t, d, i, string(b))
			}
			s := made(t, d, 0, 1, 0x0303)
			switch {
			case some == 0:
				wantPage(t, s, 0, text(1), 0x070707070707)
			case some == 15 && bit < 16:
				wantNoPage(t, s, 0, api.ErrNone)
			case some == 15:
				wantPage(t, s, 0, text(1), 0x070707070707^1<<(8*(7-bit/8)+bit%8))
			default:
				wantNoPage(t, s, 0, api.ErrTorn)
			}
		}
	}
}

// Behind the first 8 bytes nothing is held against anything: a page has no sum.
func TestBytesBehindTheMark(t *testing.T) {
	for at := range api.PageBytes {
		d := newDisk(t, 4)
		s := made(t, d, 0, 1, 3)
		write(t, s, 0, text(1), 7)
		p := []byte(text(1))
		p[at] ^= 0x55
		put(t, d, at/part, laid(3, 7, cut(string(p), at/part)))
		wantPage(t, s, 0, string(p), 7)
	}
}

func TestAnotherGeneration(t *testing.T) {
	d := newDisk(t, 12)
	old := made(t, d, 1, 2, 3)
	write(t, old, 0, text(1), 7)
	write(t, old, 1, text(2), 8)
	sync(t, old)
	s := made(t, d, 1, 2, 4)
	wantNoPage(t, s, 0, api.ErrNone)
	wantNoPage(t, s, 1, api.ErrNone)
	write(t, s, 0, text(3), 7)
	lose(t, d, 0b0110)
	s = made(t, d, 1, 2, 4)
	wantNoPage(t, s, 0, api.ErrTorn)
	wantNoPage(t, s, 1, api.ErrNone)
	write(t, s, 0, text(3), 7)
	sync(t, s)
	wantPage(t, s, 0, text(3), 7)
	old = made(t, d, 1, 2, 3)
	wantNoPage(t, old, 0, api.ErrNone)
	wantPage(t, old, 1, text(2), 8)
}

func TestStoresBesideOneAnother(t *testing.T) {
	d := newDisk(t, 12)
	a, b := made(t, d, 0, 1, 3), made(t, d, 4, 2, 3)
	write(t, a, 0, text(1), 7)
	write(t, b, 0, text(2), 7)
	write(t, b, 1, text(3), 7)
	wantPage(t, a, 0, text(1), 7)
	wantPage(t, b, 0, text(2), 7)
	wantPage(t, b, 1, text(3), 7)
	sync(t, a)
	wantUnturned(t, d, 13)
}

func TestWhatWasReadIsNotTurnedLater(t *testing.T) {
	d := newDisk(t, 4)
	s := made(t, d, 0, 1, 3)
	write(t, s, 0, text(1), 7)
	told, _, _ := s.Read(0)
	write(t, s, 0, text(2), 8)
	sync(t, s)
	if told != text(1) {
		t.Error("what was read is another page behind a write")
	}
}

// Promise 6.3.

func TestNoStore(t *testing.T) {
	var s *store.Store
	for _, n := range []int{0, 1, -1, 200, math.MinInt, math.MaxInt} {
		wantErr(t, "Write", s.Write(n, text(1), 1), api.ErrState)
		wantErr(t, "Write", s.Write(n, "a", -1), api.ErrState)
		wantErr(t, "Write", s.Write(0, text(1), n), api.ErrState)
		wantNoPage(t, s, n, api.ErrState)
	}
	wantErr(t, "Sync", s.Sync(), api.ErrState)
	if s.Pages() != 0 || s.Gen() != 0 {
		t.Errorf("Pages %d, Gen %d; want 0, 0", s.Pages(), s.Gen())
	}
}

// A store that nobody made has no pages, and no disk.
func TestStoreThatNobodyMade(t *testing.T) {
	s := &store.Store{}
	for _, n := range []int{0, 1, -1, 200, math.MinInt, math.MaxInt} {
		wantErr(t, "Write", s.Write(n, text(1), 1), api.ErrRange)
		wantNoPage(t, s, n, api.ErrRange)
	}
	wantErr(t, "Sync", s.Sync(), api.ErrState)
	if s.Pages() != 0 || s.Gen() != 0 {
		t.Errorf("Pages %d, Gen %d; want 0, 0", s.Pages(), s.Gen())
	}
}

// Promise 6.4.

func TestLossesOfOnePage(t *testing.T) {
	for keep := range uint64(16) {
		d := newDisk(t, 8)
		s := made(t, d, 2, 1, 3)
		write(t, s, 0, text(1), 7)
		lose(t, d, keep)
		switch keep {
		case 0:
			wantNoPage(t, s, 0, api.ErrNone)
		case 15:
			wantPage(t, s, 0, text(1), 7)
		default:
			wantNoPage(t, s, 0, api.ErrTorn)
		}
	}
}

func TestLossesOverAPageThatLasts(t *testing.T) {
	for keep := range uint64(16) {
		d := newDisk(t, 8)
		s := made(t, d, 2, 1, 3)
		write(t, s, 0, text(1), 7)
		sync(t, s)
		write(t, s, 0, text(2), 8)
		write(t, s, 0, text(3), 9)
		lose(t, d, keep)
		switch keep {
		case 0:
			wantPage(t, s, 0, text(1), 7)
		case 15:
			wantPage(t, s, 0, text(3), 9)
		default:
			wantNoPage(t, s, 0, api.ErrTorn)
		}
	}
}

// The same page of the same record, once more: whatever lasts of it, it is that page.
func TestLossesOfTheSamePageAgain(t *testing.T) {
	for keep := range uint64(16) {
		d := newDisk(t, 4)
		s := made(t, d, 0, 1, 3)
		write(t, s, 0, text(1), 7)
		sync(t, s)
		write(t, s, 0, text(1), 7)
		lose(t, d, keep)
		wantPage(t, s, 0, text(1), 7)
	}
}

// A page that is written again behind a loss: what lasts of both comes to it whole at
// times, though each of the losses tore it.
func TestTwoLosses(t *testing.T) {
	for first := range uint64(16) {
		for second := range uint64(16) {
			d := newDisk(t, 4)
			s := made(t, d, 0, 1, 3)
			write(t, s, 0, text(1), 7)
			sync(t, s)
			for _, keep := range []uint64{first, second} {
				write(t, s, 0, text(2), 8)
				lose(t, d, keep)
			}
			switch first | second {
			case 0:
				wantPage(t, s, 0, text(1), 7)
			case 15:
				wantPage(t, s, 0, text(2), 8)
			default:
				wantNoPage(t, s, 0, api.ErrTorn)
			}
		}
	}
}

// written is a page as it was written: which one of them a sector is of.
type written struct {
	gen, lsn, seed int
}

// plain has for each sector of which page it is, as it lasts, and as it was written
// last.
type plain struct {
	lasts, now  []written
	waits       []bool
	off, armed  bool
	left        int
	keep        uint64
	wholes      map[int][]written // by page: all that were written whole
	pages, base int
}

func newPlain(size, base, pages int) *plain {
	return &plain{lasts: make([]written, size), now: make([]written, size), waits: make([]bool, size),
		wholes: map[int][]written{}, base: base, pages: pages}
}

func (p *plain) loss(keep uint64) {
	k := 0
	for i := range p.now {
		if !p.waits[i] {
			continue
		}
		if keep&(1<<(k%64)) != 0 {
			p.lasts[i] = p.now[i]
		}
		p.now[i], p.waits[i] = p.lasts[i], false
		k++
	}
	p.off, p.armed = true, false
}

func (p *plain) goes() bool {
	if p.armed && p.left == 0 {
		p.loss(p.keep)
	}
	p.left--
	return !p.off
}

func (p *plain) write(id int, w written) api.Errno {
	for i := p.base + 4*id; i < p.base+4*id+4; i++ {
		if !p.goes() {
			return api.ErrDown
		}
		p.now[i], p.waits[i] = w, true
	}
	p.wholes[id] = append(p.wholes[id], w)
	return api.OK
}

func (p *plain) sync() api.Errno {
	if !p.goes() {
		return api.ErrDown
	}
	copy(p.lasts, p.now)
	clear(p.waits)
	return api.OK
}

// wantAsPlain asks for every page what the store tells of it.
func wantAsPlain(t *testing.T, s *store.Store, p *plain) {
	t.Helper()
	for id := range p.pages {
		l := p.now[p.base+4*id : p.base+4*id+4]
		ours := func(w written) bool { return w.gen == s.Gen() }
		other := func(w written) bool { return w != l[0] }
		switch {
		case p.off:
			wantNoPage(t, s, id, api.ErrDown)
		case !slices.ContainsFunc(l, ours):
			wantNoPage(t, s, id, api.ErrNone)
		case slices.ContainsFunc(l, other):
			wantNoPage(t, s, id, api.ErrTorn)
		default:
			wantPage(t, s, id, text(l[0].seed), l[0].lsn)
			if !slices.Contains(p.wholes[id], l[0]) {
				t.Errorf("page %d of the record %d was never written whole", id, l[0].lsn)
			}
		}
	}
}

func TestManyStepsAgainstAPlainStore(t *testing.T) {
	for seed := range int64(40) {
		r := rand.New(rand.NewSource(seed))
		base, pages, gen := r.Intn(5), 1+r.Intn(20), 1+r.Intn(60000)
		size := base + 4*pages + r.Intn(3)
		d, p := newDisk(t, size), newPlain(size, base, pages)
		s := made(t, d, base, pages, gen)
		for lsn := range 400 {
			s = step(t, r, d, s, p, lsn)
			wantAsPlain(t, s, p)
			if t.Failed() {
				t.Fatalf("seed %d, step %d", seed, lsn)
			}
		}
	}
}

// step does something at chance; the record is another one in each step, and
// sometimes two pages have it, as pages that are laid together do.
func step(t *testing.T, r *rand.Rand, d *disk.Disk, s *store.Store, p *plain, lsn int) *store.Store {
	t.Helper()
	id, keep, acts := r.Intn(p.pages), r.Uint64()|r.Uint64(), r.Intn(40)
	w := written{gen: s.Gen(), lsn: lsn, seed: r.Intn(256)}
	switch n := r.Intn(100); {
	case p.off:
		wantErr(t, "Start", d.Start(), api.OK)
		p.off = false
		return made(t, d, p.base, p.pages, s.Gen())
	case n < 70:
		wantErr(t, "Write", s.Write(id, text(w.seed), lsn), p.write(id, w))
		if other := (id + 1) % p.pages; n < 20 && other != id && !p.off {
			w.seed++
			wantErr(t, "Write", s.Write(other, text(w.seed), lsn), p.write(other, w))
		}
	case n < 76:
		wantErr(t, "Sync", s.Sync(), p.sync())
	case n < 86:
		p.loss(keep)
		wantErr(t, "Crash", d.Crash(keep), api.OK)
	case n < 94:
		p.armed, p.left, p.keep = true, acts, keep
		wantErr(t, "Arm", d.Arm(acts, keep), api.OK)
	case n < 95:
		return made(t, d, p.base, p.pages, s.Gen()+1)
	}
	return s
}
