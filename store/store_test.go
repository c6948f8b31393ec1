package store

import (
	"slices"
	"strings"
	"testing"

	"paycycle/api"
	"paycycle/plain"
)

func TestS1New(t *testing.T) {
	for _, n := range []int{api.MinSectors, api.MinSectors + 1, 1000} {
		textIs(t, opened(t, plain.NewDisk(n, -1)), "", api.OK)
		textIs(t, opened(t, newWorn(n)), "", api.OK)
	}
}

func TestS1Few(t *testing.T) {
	for _, n := range []int{0, 1, 40, 65, api.MinSectors - 1} {
		openIs(t, plain.NewDisk(n, -1), api.ErrMany)
		gone := newWorn(n)
		gone.off = true
		openIs(t, gone, api.ErrMany)
	}
}

func TestS1Power(t *testing.T) {
	d := plain.NewDisk(api.MinSectors, 0)
	d.Write(0, "")
	if !d.Off() {
		t.Fatal("the power is still there")
	}
	openIs(t, d, api.ErrPower)
	kept := keeping(t, "one", "two")
	kept.off = true
	openIs(t, kept, api.ErrPower)
	openIs(t, kept.again(0, false), api.ErrPower)
}

func TestS1OpenedAgain(t *testing.T) {
	d := newWorn(api.MinSectors)
	for _, text := range someTexts() {
		saveIs(t, opened(t, d), text, api.OK)
		for range 2 {
			textIs(t, opened(t, d), text, api.OK)
		}
		d = d.again(-1, false)
		textIs(t, opened(t, d), text, api.OK)
	}
}

// TestS1Other: of a disk on which somebody else wrote comes a store, or an error, and nothing panics.
func TestS1Other(t *testing.T) {
	var r draw
	refused := 0
	for n := range 5000 {
		d := keeping(t, "some", strings.Repeat("text", 100))
		for range 1 + r.below(4) {
			sector := []byte(d.sectors[r.below(2)*r.below(len(d.sectors))])
			sector[r.below(8)] = byte(r.below(256))
			d.sectors[r.below(2)*r.below(len(d.sectors))] = string(sector)
		}
		if n%10 == 0 {
			d.sectors[0] = r.text(api.SectorSize)
		}
		s, err := Open(d)
		if (s == nil) != (err != api.OK) {
			t.Fatalf("Open = %v, %d", s, err)
		}
		if s == nil {
			refused++
			continue
		}
		if text, err := s.Text(); err != api.OK && text != "" || len(text) > api.MaxStored {
			t.Fatalf("Text = %q, %d", text, err)
		}
		s.Save("other")
	}
	if refused == 0 {
		t.Error("no disk was refused")
	}
}

func TestS2EachLength(t *testing.T) {
	var r draw
	d := plain.NewDisk(api.MinSectors, -1)
	s := opened(t, d)
	for n := range api.MaxStored + 1 {
		text := r.text(n)
		writes := d.Writes()
		saveIs(t, s, text, api.OK)
		if wrote := d.Writes() - writes; wrote > api.MaxWrites {
			t.Fatalf("%d sectors written for %d bytes", wrote, n)
		}
		textIs(t, s, text, api.OK)
		textIs(t, opened(t, d), text, api.OK)
	}
}

func TestS2EachPair(t *testing.T) {
	for _, one := range someTexts() {
		for _, other := range someTexts() {
			d := keeping(t, one, other)
			textIs(t, opened(t, d), other, api.OK)
			s := opened(t, d)
			saveIs(t, s, one, api.OK)
			textIs(t, s, one, api.OK)
		}
	}
}

func TestS2Many(t *testing.T) {
	for _, n := range []int{api.MaxStored + 1, api.MaxStored + 47, 2048, 2049, 1 << 16, 1 << 20} {
		d := plain.NewDisk(api.MinSectors, -1)
		s := opened(t, d)
		saveIs(t, s, "kept", api.OK)
		writes := d.Writes()
		saveIs(t, s, strings.Repeat("x", n), api.ErrMany)
		if d.Writes() != writes {
			t.Errorf("%d bytes: something was written", n)
		}
		textIs(t, s, "kept", api.OK)
		saveIs(t, s, "more", api.OK)
		textIs(t, s, "more", api.OK)
	}
	off := newWorn(api.MinSectors)
	s := opened(t, off)
	off.off = true
	saveIs(t, s, strings.Repeat("x", api.MaxStored+1), api.ErrMany)
}

// TestS2BehindPower: all that is asked of a store whose power went is told so, even if the disk has power again.
func TestS2BehindPower(t *testing.T) {
	for at := range 32 { // so many sectors must be written for so long a text
		d := keeping(t, "one")
		s := opened(t, d)
		d.at = at
		saveIs(t, s, strings.Repeat("x", api.MaxStored), api.ErrPower)
		for _, on := range []bool{false, true} {
			if on {
				d.off, d.at = false, -1
			}
			writes := len(d.writes)
			for range 2 {
				textIs(t, s, "", api.ErrPower)
				saveIs(t, s, "two", api.ErrPower)
				saveIs(t, s, "", api.ErrPower)
				saveIs(t, s, strings.Repeat("x", api.MaxStored+1), api.ErrPower)
			}
			if len(d.writes) != writes {
				t.Error("a store without power wrote")
			}
		}
		textIs(t, opened(t, d), "one", api.OK)
	}
}

func TestS2PowerGoesWhileRead(t *testing.T) {
	for _, text := range someTexts() {
		for at := range 40 {
			d := keeping(t, "before", text)
			s := opened(t, d)
			d.at = at
			if got, err := s.Text(); err == api.OK && got == text && !d.off {
				continue
			} else if got != "" || err != api.ErrPower {
				t.Errorf("read %d: Text = %.60q, %d", at, got, err)
			}
			saveIs(t, s, "more", api.ErrPower)
			textIs(t, opened(t, d.again(-1, false)), text, api.OK)
		}
	}
}

// TestS2Sectors: no sector that a store writes lies beyond the fewest that a disk may have.
func TestS2Sectors(t *testing.T) {
	d := keeping(t, someTexts()...)
	if len(d.writes) == 0 || slices.Min(d.writes) < 0 || slices.Max(d.writes) >= api.MinSectors {
		t.Errorf("sectors %v were written", d.writes)
	}
}

func TestS2TwoStores(t *testing.T) {
	var r draw
	d := newWorn(api.MinSectors)
	stores := []*Store{opened(t, d), opened(t, d), opened(t, d)}
	for range 200 {
		text := r.text(r.below(api.MaxStored + 1))
		saveIs(t, stores[r.below(len(stores))], text, api.OK)
		for _, s := range stores {
			textIs(t, s, text, api.OK)
		}
	}
	one, other := opened(t, newWorn(api.MinSectors)), opened(t, newWorn(api.MinSectors))
	saveIs(t, one, "one", api.OK)
	textIs(t, other, "", api.OK)
}
