package net_test

import (
	"math"
	"math/rand"
	"slices"
	"strconv"
	"testing"

	"gharry/api"
	"gharry/net"
)

// with is a net on which these texts are.
func with(t *testing.T, texts ...string) *net.Net {
	t.Helper()
	n := net.New()
	if n == nil {
		t.Fatal("New: nil")
	}
	for _, s := range texts {
		if !n.Send(s) {
			t.Fatalf("Send(%q): false", s)
		}
	}
	return n
}

func numbered(many int) []string {
	texts := make([]string, many)
	for i := range texts {
		texts[i] = strconv.Itoa(i)
	}
	return texts
}

func wantErr(t *testing.T, what string, got, want api.Errno) {
	t.Helper()
	if got != want {
		t.Errorf("%s: error %d, want %d", what, got, want)
	}
}

func wantText(t *testing.T, what, got string, err api.Errno, want string) {
	t.Helper()
	if got != want || err != api.OK {
		t.Errorf("%s: %q, error %d; want %q", what, got, err, want)
	}
}

func wantNoText(t *testing.T, what, got string, err, want api.Errno) {
	t.Helper()
	if got != "" || err != want {
		t.Errorf("%s: %q, error %d; want none, error %d", what, got, err, want)
	}
}

// wantOnWay asks every call that tells what is on its way.
func wantOnWay(t *testing.T, n *net.Net, want ...string) {
	t.Helper()
	if got := n.All(); !slices.Equal(got, want) {
		t.Errorf("All: %q, want %q", got, want)
	}
	if got := n.Len(); got != len(want) {
		t.Errorf("Len: %d, want %d", got, len(want))
	}
	for i, s := range want {
		got, err := n.At(i)
		wantText(t, "At("+strconv.Itoa(i)+")", got, err, s)
	}
	for _, i := range outside(len(want)) {
		got, err := n.At(i)
		wantNoText(t, "At("+strconv.Itoa(i)+")", got, err, api.ErrNone)
	}
}

func wantCounts(t *testing.T, n *net.Net, sent, lost int) {
	t.Helper()
	if gotSent, gotLost := n.Counts(); gotSent != sent || gotLost != lost {
		t.Errorf("Counts: %d, %d; want %d, %d", gotSent, gotLost, sent, lost)
	}
}

// outside are places at which none of so many is.
func outside(many int) []int {
	return []int{math.MinInt, -many - 1, -1, many, many + 1, api.MaxFlight, math.MaxInt}
}

// Promise 4.1.

func TestExample(t *testing.T) {
	n := with(t, "a", "b")
	got, err := n.Take(1)
	wantText(t, "Take(1)", got, err, "b")
	wantOnWay(t, n, "a")
	wantCounts(t, n, 2, 0)
}

func TestNewIsEmpty(t *testing.T) {
	n := with(t)
	wantOnWay(t, n)
	wantCounts(t, n, 0, 0)
	wantNonePlaces(t, n)
}

func TestNetsAreApart(t *testing.T) {
	n, other := with(t, "a"), with(t, "x", "y")
	wantErr(t, "Drop(0)", n.Drop(0), api.OK)
	wantOnWay(t, n)
	wantCounts(t, n, 1, 1)
	wantOnWay(t, other, "x", "y")
	wantCounts(t, other, 2, 0)
}

func TestSendGoesBehind(t *testing.T) {
	n := with(t, "b", "a", "", "a", "\x00\xff")
	wantOnWay(t, n, "b", "a", "", "a", "\x00\xff")
	wantCounts(t, n, 5, 0)
}

func TestEmptyText(t *testing.T) {
	n := with(t, "")
	wantOnWay(t, n, "")
	wantErr(t, "Copy(0)", n.Copy(0), api.OK)
	wantOnWay(t, n, "", "")
	got, err := n.Take(0)
	wantText(t, "Take(0)", got, err, "")
	wantOnWay(t, n, "")
	wantErr(t, "Drop(0)", n.Drop(0), api.OK)
	wantOnWay(t, n)
	wantCounts(t, n, 1, 1)
}

func TestSendAtTheLimit(t *testing.T) {
	texts := numbered(api.MaxFlight)
	n := with(t, texts[:127]...)
	wantOnWay(t, n, texts[:127]...)
	if !n.Send(texts[127]) {
		t.Error("Send of the 128th: false")
	}
	wantOnWay(t, n, texts...)
	wantCounts(t, n, 128, 0)
	if n.Send("more") {
		t.Error("Send of the 129th: true")
	}
	wantOnWay(t, n, texts...)
	wantCounts(t, n, 129, 1)
	if n.Send("") {
		t.Error("Send of an empty text while 128 are on their way: true")
	}
	wantCounts(t, n, 130, 2)

	got, err := n.Take(0)
	wantText(t, "Take(0)", got, err, "0")
	if !n.Send("more") {
		t.Error("Send behind a Take: false")
	}
	wantOnWay(t, n, append(slices.Clone(texts[1:]), "more")...)
	wantCounts(t, n, 131, 2)
}

func TestAllIsTheCallersOwn(t *testing.T) {
	n := with(t, "a", "b", "c")
	list := n.All()
	slices.Reverse(list)
	list[1] = "x"
	_ = append(list[:0], "y", "z")
	wantOnWay(t, n, "a", "b", "c")

	kept := n.All()
	if _, err := n.Take(0); err != api.OK {
		t.Fatalf("Take(0): error %d", err)
	}
	wantErr(t, "Swap(0, 1)", n.Swap(0, 1), api.OK)
	n.Send("d")
	if want := []string{"a", "b", "c"}; !slices.Equal(kept, want) {
		t.Errorf("All, kept while the net went on: %q, want %q", kept, want)
	}
	_ = append(n.All(), "x")
	n.Send("e")
	wantOnWay(t, n, "c", "b", "d", "e")
}

func TestAtLeavesAll(t *testing.T) {
	n := with(t, "a", "b")
	for range 3 {
		got, err := n.At(1)
		wantText(t, "At(1)", got, err, "b")
	}
	wantOnWay(t, n, "a", "b")
	wantCounts(t, n, 2, 0)
}

func TestTakeAndDropEveryPlace(t *testing.T) {
	for _, many := range []int{1, 2, 3, 5, 127, 128} {
		texts := numbered(many)
		for i := range texts {
			left := slices.Delete(slices.Clone(texts), i, i+1)
			taken := with(t, texts...)
			got, err := taken.Take(i)
			wantText(t, "Take", got, err, texts[i])
			wantOnWay(t, taken, left...)
			wantCounts(t, taken, many, 0)

			dropped := with(t, texts...)
			wantErr(t, "Drop", dropped.Drop(i), api.OK)
			wantOnWay(t, dropped, left...)
			wantCounts(t, dropped, many, 1)
		}
	}
}

func TestSendBehindTheLastWasTaken(t *testing.T) {
	n := with(t, "a", "b", "c")
	got, err := n.Take(2)
	wantText(t, "Take(2)", got, err, "c")
	n.Send("d")
	wantOnWay(t, n, "a", "b", "d")
	wantErr(t, "Drop(2)", n.Drop(2), api.OK)
	wantErr(t, "Copy(0)", n.Copy(0), api.OK)
	wantOnWay(t, n, "a", "b", "a")
	wantCounts(t, n, 4, 1)
}

func TestCopy(t *testing.T) {
	n := with(t, "a", "b", "c")
	wantErr(t, "Copy(0)", n.Copy(0), api.OK)
	wantOnWay(t, n, "a", "b", "c", "a")
	wantErr(t, "Copy(1)", n.Copy(1), api.OK)
	wantOnWay(t, n, "a", "b", "c", "a", "b")
	wantErr(t, "Copy(4)", n.Copy(4), api.OK)
	wantOnWay(t, n, "a", "b", "c", "a", "b", "b")
	wantCounts(t, n, 3, 0)
	got, err := n.Take(0)
	wantText(t, "Take(0)", got, err, "a")
	got, err = n.Take(2)
	wantText(t, "Take(2)", got, err, "a")
	wantOnWay(t, n, "b", "c", "b", "b")
}

func TestCopyAtTheLimit(t *testing.T) {
	texts := numbered(127)
	n := with(t, texts...)
	wantErr(t, "Copy(5) of 127", n.Copy(5), api.OK)
	full := append(slices.Clone(texts), "5")
	wantOnWay(t, n, full...)
	wantCounts(t, n, 127, 0)
	for k, i := range []int{0, 5, 127} {
		wantErr(t, "Copy of 128", n.Copy(i), api.ErrFull)
		wantOnWay(t, n, full...)
		wantCounts(t, n, 127, k+1)
	}
	for _, i := range outside(128) {
		wantErr(t, "Copy outside, of 128", n.Copy(i), api.ErrNone)
	}
	wantCounts(t, n, 127, 3)
	wantErr(t, "Drop(127)", n.Drop(127), api.OK)
	wantErr(t, "Copy(126) of 127", n.Copy(126), api.OK)
	wantOnWay(t, n, append(slices.Clone(texts), "126")...)
	wantCounts(t, n, 127, 4)
}

func TestSwap(t *testing.T) {
	n := with(t, "a", "b", "c", "d")
	wantErr(t, "Swap(0, 3)", n.Swap(0, 3), api.OK)
	wantOnWay(t, n, "d", "b", "c", "a")
	wantErr(t, "Swap(2, 1)", n.Swap(2, 1), api.OK)
	wantOnWay(t, n, "d", "c", "b", "a")
	for i := range 4 {
		wantErr(t, "Swap with itself", n.Swap(i, i), api.OK)
		wantOnWay(t, n, "d", "c", "b", "a")
	}
	wantCounts(t, n, 4, 0)
}

func TestSwapTurnsOneNetAlone(t *testing.T) {
	texts := numbered(128)
	n, other := with(t, texts...), with(t, texts...)
	wantErr(t, "Swap(0, 127)", n.Swap(0, 127), api.OK)
	turned := slices.Clone(texts)
	turned[0], turned[127] = "127", "0"
	wantOnWay(t, n, turned...)
	wantOnWay(t, other, texts...)
}

// wantNonePlaces names places that are not there to every call that takes one.
func wantNonePlaces(t *testing.T, n *net.Net) {
	t.Helper()
	ahead := n.All()
	sent, lost := n.Counts()
	for _, i := range outside(len(ahead)) {
		place := strconv.Itoa(i)
		got, err := n.At(i)
		wantNoText(t, "At("+place+")", got, err, api.ErrNone)
		got, err = n.Take(i)
		wantNoText(t, "Take("+place+")", got, err, api.ErrNone)
		wantErr(t, "Drop("+place+")", n.Drop(i), api.ErrNone)
		wantErr(t, "Copy("+place+")", n.Copy(i), api.ErrNone)
		wantErr(t, "Swap of both "+place, n.Swap(i, i), api.ErrNone)
		for k := range ahead {
			wantErr(t, "Swap, the first "+place, n.Swap(i, k), api.ErrNone)
			wantErr(t, "Swap, the second "+place, n.Swap(k, i), api.ErrNone)
		}
	}
	wantOnWay(t, n, ahead...)
	wantCounts(t, n, sent, lost)
}

func TestPlacesThatAreNotThere(t *testing.T) {
	for _, many := range []int{1, 2, 3, 127, 128} {
		wantNonePlaces(t, with(t, numbered(many)...))
	}
}

func TestPlacesThatAreNoMore(t *testing.T) {
	n := with(t, "a", "b", "c")
	if _, err := n.Take(2); err != api.OK {
		t.Fatalf("Take(2): error %d", err)
	}
	wantNonePlaces(t, n)
	for range 2 {
		wantErr(t, "Drop(0)", n.Drop(0), api.OK)
	}
	wantOnWay(t, n)
	wantNonePlaces(t, n)
}

// Promise 4.2.

func TestNilNet(t *testing.T) {
	var n *net.Net
	if n.Send("a") {
		t.Error("Send: true")
	}
	if got := n.Len(); got != 0 {
		t.Errorf("Len: %d", got)
	}
	if got := n.All(); len(got) != 0 {
		t.Errorf("All: %q", got)
	}
	wantCounts(t, n, 0, 0)
	for _, i := range []int{math.MinInt, -1, 0, 1, 128, math.MaxInt} {
		got, err := n.At(i)
		wantNoText(t, "At", got, err, api.ErrState)
		got, err = n.Take(i)
		wantNoText(t, "Take", got, err, api.ErrState)
		wantErr(t, "Drop", n.Drop(i), api.ErrState)
		wantErr(t, "Copy", n.Copy(i), api.ErrState)
		wantErr(t, "Swap, the first", n.Swap(i, 0), api.ErrState)
		wantErr(t, "Swap, the second", n.Swap(0, i), api.ErrState)
	}
}

// A net that nobody made is no nil one: nothing is on it.
func TestZeroNet(t *testing.T) {
	var n net.Net
	wantOnWay(t, &n)
	wantNonePlaces(t, &n)
	if !n.Send("a") {
		t.Error("Send: false")
	}
	wantOnWay(t, &n, "a")
	wantCounts(t, &n, 1, 0)
}

// Promise 4.3.

// plain is a net as the document's words have it, one step after the other.
type plain struct {
	onWay      []string
	sent, lost int
}

func (p *plain) has(i int) bool { return i >= 0 && i < len(p.onWay) }

func (p *plain) without(i int) {
	var left []string
	for k, s := range p.onWay {
		if k != i {
			left = append(left, s)
		}
	}
	p.onWay = left
}

func (p *plain) send(s string) bool {
	p.sent++
	if len(p.onWay) == 128 {
		p.lost++
		return false
	}
	p.onWay = append(p.onWay, s)
	return true
}

func (p *plain) take(i int) (string, api.Errno) {
	if !p.has(i) {
		return "", api.ErrNone
	}
	s := p.onWay[i]
	p.without(i)
	return s, api.OK
}

func (p *plain) drop(i int) api.Errno {
	if !p.has(i) {
		return api.ErrNone
	}
	p.without(i)
	p.lost++
	return api.OK
}

func (p *plain) copy(i int) api.Errno {
	if !p.has(i) {
		return api.ErrNone
	}
	if len(p.onWay) == 128 {
		p.lost++
		return api.ErrFull
	}
	p.onWay = append(p.onWay, p.onWay[i])
	return api.OK
}

func (p *plain) swap(i, k int) api.Errno {
	if !p.has(i) || !p.has(k) {
		return api.ErrNone
	}
	p.onWay[i], p.onWay[k] = p.onWay[k], p.onWay[i]
	return api.OK
}

func TestManyStepsAgainstAPlainNet(t *testing.T) {
	for seed := range int64(40) {
		chance := rand.New(rand.NewSource(seed))
		n, p := net.New(), &plain{}
		sends := 2 + int(seed%4) // so that some nets stay near empty, and some fill
		sent := map[string]bool{}
		for step := range 600 {
			i, k := chance.Intn(n.Len()+3)-1, chance.Intn(n.Len()+3)-1
			switch pick := chance.Intn(sends + 5); pick {
			case 0:
				got, err := n.Take(i)
				want, wantedErr := p.take(i)
				if got != want || err != wantedErr {
					t.Fatalf("seed %d step %d: Take(%d): %q, error %d; want %q, error %d", seed, step, i, got, err, want, wantedErr)
				}
				if err == api.OK && !sent[got] {
					t.Fatalf("seed %d step %d: %q came, and was never sent", seed, step, got)
				}
			case 1:
				wantErr(t, "Drop", n.Drop(i), p.drop(i))
			case 2:
				wantErr(t, "Copy", n.Copy(i), p.copy(i))
			case 3, 4:
				wantErr(t, "Swap", n.Swap(i, k), p.swap(i, k))
			default:
				s := strconv.Itoa(step)
				if got, want := n.Send(s), p.send(s); got != want {
					t.Fatalf("seed %d step %d: Send: %v, want %v", seed, step, got, want)
				}
				sent[s] = true
			}
			wantOnWay(t, n, p.onWay...)
			wantCounts(t, n, p.sent, p.lost)
			if t.Failed() {
				t.Fatalf("seed %d step %d", seed, step)
			}
		}
	}
}

// What comes was sent: each text as often as it was sent or copied and had room,
// less what was dropped.
func TestWhatComesWasSent(t *testing.T) {
	n := with(t, numbered(100)...)
	come := map[string]int{}
	for range 28 {
		wantErr(t, "Copy(7)", n.Copy(7), api.OK)
	}
	for range 12 {
		wantErr(t, "Copy(7) of 128", n.Copy(7), api.ErrFull)
	}
	wantErr(t, "Drop(3)", n.Drop(3), api.OK)
	wantErr(t, "Swap(0, 99)", n.Swap(0, 99), api.OK)
	for range 127 {
		s, err := n.Take(n.Len() / 2)
		if err != api.OK {
			t.Fatalf("Take: error %d", err)
		}
		come[s]++
	}
	wantOnWay(t, n)
	want := map[string]int{}
	for _, s := range numbered(100) {
		want[s] = 1
	}
	want["7"] = 29
	delete(want, "3")
	for s, times := range want {
		if come[s] != times {
			t.Errorf("%q came %d times, want %d", s, come[s], times)
		}
	}
	if len(come) != len(want) {
		t.Errorf("%d texts came, want %d", len(come), len(want))
	}
	wantCounts(t, n, 100, 13)
}
