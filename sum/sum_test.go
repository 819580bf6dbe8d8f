package sum_test

import (
	"hash/crc32"
	"math"
	"math/rand"
	"strings"
	"testing"

	"gharry/api"
	"gharry/sum"
)

const most = 1<<32 - 1

// plain is the sum as the document's words go, bit by bit.
func plain(s string) int {
	register := uint32(most)
	for i := 0; i < len(s); i++ {
		register ^= uint32(s[i])
		for range 8 {
			out := register & 1
			register >>= 1
			if out == 1 {
				register ^= 0x82f63b78
			}
		}
	}
	return int(register ^ most)
}

func chance() *rand.Rand { return rand.New(rand.NewSource(2)) }

func anyText(r *rand.Rand, n int) string {
	b := make([]byte, n)
	r.Read(b)
	return string(b)
}

func zeros(n int) string { return strings.Repeat("\x00", n) }

func wantJoin(t *testing.T, a, b, n, want int, wantErr api.Errno) {
	t.Helper()
	got, err := sum.Join(a, b, n)
	if got != want || err != wantErr {
		t.Errorf("Join(%x, %x, %d): %x, error %d; want %x, error %d", a, b, n, got, err, want, wantErr)
	}
}

func wantOpen(t *testing.T, s, want string, wantErr api.Errno) {
	t.Helper()
	got, err := sum.Open(s)
	if got != want || err != wantErr {
		t.Errorf("Open(%q): %q, error %d; want %q, error %d", s, got, err, want, wantErr)
	}
}

// Promise 2.1.

func TestSum(t *testing.T) {
	for _, c := range []struct {
		s    string
		want int
	}{
		{"123456789", 0xe3069283},
		{"", 0},
		{"a", 0xc1d04330},
		{"\x00", 0x527d5351},
		{"\xff\xff\xff\xff", most},
		{zeros(32), 0x8a9136aa},
		{strings.Repeat("\xff", 32), 0x62a8ab43},
	} {
		if got := sum.Sum(c.s); got != c.want {
			t.Errorf("Sum(%q): %x, want %x", c.s, got, c.want)
		}
	}
}

func TestSumIsAsTheWordsSay(t *testing.T) {
	for b := range 256 {
		s := string([]byte{byte(b)})
		if got, want := sum.Sum(s), plain(s); got != want {
			t.Errorf("Sum of the byte %d: %x, want %x", b, got, want)
		}
	}
	r := chance()
	table := crc32.MakeTable(crc32.Castagnoli)
	for n := range 600 {
		s := anyText(r, n)
		if got, want := sum.Sum(s), plain(s); got != want {
			t.Fatalf("Sum of %d bytes: %x, want %x", n, got, want)
		}
		if got, want := sum.Sum(s), int(crc32.Checksum([]byte(s), table)); got != want {
			t.Fatalf("Sum of %d bytes: %x, and as others sum it up: %x", n, got, want)
		}
	}
}

func TestSumOfALongText(t *testing.T) {
	s := anyText(chance(), 1<<20)
	if got, want := sum.Sum(s), plain(s); got != want {
		t.Errorf("Sum: %x, want %x", got, want)
	}
}

func TestMoreGoesOnWhereATextEnds(t *testing.T) {
	r := chance()
	s := anyText(r, 200)
	want := plain(s)
	for cut := range len(s) + 1 {
		if got := sum.More(sum.Sum(s[:cut]), s[cut:]); got != want {
			t.Errorf("More behind %d bytes: %x, want %x", cut, got, want)
		}
	}
	all := 0
	for i := range len(s) {
		all = sum.More(all, s[i:i+1])
	}
	if all != want {
		t.Errorf("More byte by byte: %x, want %x", all, want)
	}
	if got := sum.More(sum.Sum("1234"), "56789"); got != 0xe3069283 {
		t.Errorf("More(Sum(1234), 56789): %x", got)
	}
}

func TestMoreOfNothingIsTheSum(t *testing.T) {
	for _, n := range []int{0, 1, 0x527d5351, 1 << 31, most - 1, most} {
		if got := sum.More(n, ""); got != n {
			t.Errorf("More(%x, nothing): %x", n, got)
		}
	}
}

func TestMoreTakesTheLowest32Bits(t *testing.T) {
	for _, c := range []struct{ n, low int }{
		{1 << 32, 0},
		{1<<32 + 5, 5},
		{most + 1<<40, most},
		{-1, most},
		{-1 << 32, 0},
		{-1<<32 + 7, 7},
		{math.MaxInt, most},
		{math.MinInt, 0},
		{math.MinInt + 0xe3069283, 0xe3069283},
	} {
		for _, s := range []string{"", "a", "56789", "\x00"} {
			if got, want := sum.More(c.n, s), sum.More(c.low, s); got != want {
				t.Errorf("More(%x, %q): %x, want %x as of %x", c.n, s, got, want, c.low)
			}
		}
		if got := sum.More(c.n, ""); got != c.low {
			t.Errorf("More(%x, nothing): %x, want %x", c.n, got, c.low)
		}
	}
}

// A sum of all bits 1 stands for a register of bits 0 alone, which bytes 0 don't turn.
func TestMoreOfTheEdgesOfASum(t *testing.T) {
	for _, n := range []int{0, 1, 4, 100} {
		if got := sum.More(most, zeros(n)); got != most {
			t.Errorf("More(2^32 - 1, %d bytes 0): %x", n, got)
		}
		if got, want := sum.More(0, zeros(n)), plain(zeros(n)); got != want {
			t.Errorf("More(0, %d bytes 0): %x, want %x", n, got, want)
		}
	}
}

func TestJoinIsTheSumOfBoth(t *testing.T) {
	wantJoin(t, sum.Sum("1234"), sum.Sum("56789"), 5, 0xe3069283, api.OK)
	r := chance()
	for n := range 300 {
		s, u := anyText(r, r.Intn(40)), anyText(r, n)
		wantJoin(t, plain(s), plain(u), n, plain(s+u), api.OK)
	}
	s, u := anyText(r, 10), anyText(r, 70001)
	wantJoin(t, plain(s), plain(u), len(u), plain(s+u), api.OK)
}

// Whatever a and b are, a text of so many bytes or none, Join is what the words make of them.
func TestJoinIsAsTheWordsSay(t *testing.T) {
	r := chance()
	sums := []int{0, 1, 2, 1 << 16, 1 << 31, most - 1, most, 0x82f63b78}
	for range 20 {
		sums = append(sums, int(r.Uint32()))
	}
	for _, n := range []int{0, 1, 2, 3, 4, 5, 7, 8, 255, 256, 4096} {
		of := zeros(n)
		for _, a := range sums {
			for _, b := range sums {
				wantJoin(t, a, b, n, sum.More(a, of)^sum.Sum(of)^b, api.OK)
			}
		}
	}
}

func TestJoinOfNoBytes(t *testing.T) {
	for _, a := range []int{0, 1, 0xe3069283, most} {
		wantJoin(t, a, 0, 0, a, api.OK)
		wantJoin(t, 0, a, 0, a, api.OK)
		wantJoin(t, a, a, 0, 0, api.OK)
		wantJoin(t, a, most, 0, a^most, api.OK)
	}
}

// The register comes round in 2^31 - 1 shifts, so n counts by what is left of it there.
func TestJoinOfMoreBytesThanAnybodyHas(t *testing.T) {
	const round = 1<<31 - 1
	for _, n := range []int{0, 1, 5, 1000} {
		for _, a := range []int{0, 1, 0xe3069283, most} {
			want, _ := sum.Join(a, 77, n)
			wantJoin(t, a, 77, n+round, want, api.OK)
			wantJoin(t, a, 77, n+round*3, want, api.OK)
			wantJoin(t, a, 77, n+round<<31, want, api.OK)
		}
	}
	want, _ := sum.Join(0xe3069283, 77, math.MaxInt%round)
	wantJoin(t, 0xe3069283, 77, math.MaxInt, want, api.OK)
}

// Joins go together in whichever order: of three texts, too.
func TestJoinOfThree(t *testing.T) {
	r := chance()
	for range 50 {
		a, b, c := int(r.Uint32()), int(r.Uint32()), int(r.Uint32())
		n, m := r.Intn(1<<40), r.Intn(1<<40)
		left, _ := sum.Join(a, b, n)
		right, _ := sum.Join(b, c, m)
		want, _ := sum.Join(left, c, m)
		wantJoin(t, a, right, n+m, want, api.OK)
	}
}

func TestJoinOfWrongArguments(t *testing.T) {
	for _, bad := range []int{-1, most + 1, -most, 1 << 40, math.MaxInt, math.MinInt} {
		wantJoin(t, bad, 0, 0, 0, api.ErrArg)
		wantJoin(t, 0, bad, 0, 0, api.ErrArg)
		wantJoin(t, bad, bad, 5, 0, api.ErrArg)
		wantJoin(t, bad, 7, -1, 0, api.ErrArg)
	}
	for _, n := range []int{-1, -2, -1 << 32, math.MinInt} {
		wantJoin(t, 1, 2, n, 0, api.ErrArg)
		wantJoin(t, 0, 0, n, 0, api.ErrArg)
		wantJoin(t, most, most, n, 0, api.ErrArg)
	}
	wantJoin(t, most, most, 0, 0, api.OK)
}

// Promise 2.2.

func TestSealLaysTheSumAhead(t *testing.T) {
	for _, c := range []struct{ s, want string }{
		{"123456789", "\xe3\x06\x92\x83123456789"},
		{"", zeros(4)},
		{"\x00", "\x52\x7d\x53\x51\x00"},
		{"\xff\xff\xff\xff", "\xff\xff\xff\xff\xff\xff\xff\xff"},
	} {
		if got := sum.Seal(c.s); got != c.want {
			t.Errorf("Seal(%q): %q, want %q", c.s, got, c.want)
		}
	}
}

func TestOpen(t *testing.T) {
	wantOpen(t, "\xe3\x06\x92\x83123456789", "123456789", api.OK)
	wantOpen(t, "\xff\xff\xff\xff\xff\xff\xff\xff", "\xff\xff\xff\xff", api.OK)
	wantOpen(t, zeros(4), "", api.OK)
}

func TestOpenOfTooLittle(t *testing.T) {
	for _, s := range []string{"", "\x00", "ab", "abc", zeros(3), "\xe3\x06\x92"} {
		wantOpen(t, s, "", api.ErrShort)
	}
}

func TestOpenOfAnotherSum(t *testing.T) {
	for _, s := range []string{
		"\x00\x00\x00\x01",
		"\x01\x00\x00\x00",
		"\xff\xff\xff\xff",
		"abcd",
		"\xe3\x06\x92\x84123456789",
		"\xe3\x06\x92\x83123456788",
		"\xe3\x06\x92\x8312345678",
		"\xe3\x06\x92\x831234567890",
		"\x83\x92\x06\xe3123456789", // the lowest byte first
		"\x00\xe3\x06\x92\x83123456789",
		"123456789\xe3\x06\x92\x83",
		zeros(5),
	} {
		wantOpen(t, s, "", api.ErrSum)
	}
}

// Promise 2.3.

func TestWhatIsSealedIsOpened(t *testing.T) {
	r := chance()
	for n := range 300 {
		s := anyText(r, n)
		wantOpen(t, sum.Seal(s), s, api.OK)
		wantOpen(t, sum.Seal(sum.Seal(s)), sum.Seal(s), api.OK)
	}
	s := anyText(r, 1<<17)
	wantOpen(t, sum.Seal(s), s, api.OK)
}

// turn turns the bits of a text from one place on (the lowest of a byte first) that a mask has.
func turn(s string, from int, mask uint32) string {
	b := []byte(s)
	for bit := range 32 {
		if mask>>bit&1 == 1 {
			at := from + bit
			b[at/8] ^= 1 << (at % 8)
		}
	}
	return string(b)
}

func TestBitsThatDifferSideBySideAreFound(t *testing.T) {
	r := chance()
	s := anyText(r, 24)
	for from := range 8*len(s) - 31 {
		for range 300 {
			mask := r.Uint32() >> r.Intn(32)
			if mask == 0 {
				continue
			}
			if sum.Sum(turn(s, from, mask)) == sum.Sum(s) {
				t.Fatalf("bits %x from %d on are not found", mask, from)
			}
		}
		for _, mask := range []uint32{1, 1 << 31, most, 1<<31 | 1, 0x82f63b78} {
			if sum.Sum(turn(s, from, mask)) == sum.Sum(s) {
				t.Fatalf("bits %x from %d on are not found", mask, from)
			}
		}
	}
}

func TestTextsOfFourBytesHaveUnlikeSums(t *testing.T) {
	seen := map[int]string{}
	r := chance()
	for range 20000 {
		s := anyText(r, 4)
		n := sum.Sum(s)
		if other, ok := seen[n]; ok && other != s {
			t.Fatalf("%q and %q have one sum", s, other)
		}
		seen[n] = s
	}
}

func TestASealFindsWhatWasTurned(t *testing.T) {
	s := sum.Seal("a text that goes a long way")
	for bit := range 8 * len(s) {
		b := []byte(s)
		b[bit/8] ^= 1 << (bit % 8)
		wantOpen(t, string(b), "", api.ErrSum)
	}
	for cut := range len(s) {
		want := api.ErrSum
		if cut < 4 {
			want = api.ErrShort
		}
		wantOpen(t, s[:cut], "", want)
	}
}
