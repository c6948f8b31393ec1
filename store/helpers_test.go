package store

import (
	"slices"
	"strings"
	"testing"

	"paycycle/api"
)

// draw makes small numbers, the same each time.
type draw uint64

func (d *draw) below(n int) int {
	*d = *d*6364136223846793005 + 1442695040888963407
	return int(uint64(*d) >> 33 % uint64(n))
}

// text of so many bytes, any of them.
func (d *draw) text(n int) string {
	var b strings.Builder
	for range n {
		b.WriteByte(byte(d.below(256)))
	}
	return b.String()
}

// worn is a disk whose power goes at a read or write, the one with the number at (from 0 on; below 0: never).
type worn struct {
	sectors []string
	at      int
	late    bool // the write with which the power goes is done all the same
	off     bool
	writes  []int // which sectors were written
}

func newWorn(n int) *worn {
	return &worn{sectors: slices.Repeat([]string{strings.Repeat("\x00", api.SectorSize)}, n), at: -1}
}

// again is the disk when the power is there again.
func (d *worn) again(at int, late bool) *worn {
	return &worn{sectors: slices.Clone(d.sectors), at: at, late: late}
}

func (d *worn) goes() bool {
	went := d.at == 0
	d.off = d.off || went
	if d.at >= 0 {
		d.at--
	}
	return went
}

func (d *worn) Sectors() int { return len(d.sectors) }

func (d *worn) Read(i int) (string, api.Errno) {
	if d.goes(); d.off {
		return "", api.ErrPower
	}
	if i < 0 || i >= len(d.sectors) {
		return "", api.ErrRange
	}
	return d.sectors[i], api.OK
}

func (d *worn) Write(i int, sector string) api.Errno {
	was := d.off
	went := d.goes()
	if was || went && !d.late {
		return api.ErrPower
	}
	if i < 0 || i >= len(d.sectors) || len(sector) != api.SectorSize {
		return api.ErrRange
	}
	d.sectors[i] = sector
	d.writes = append(d.writes, i)
	if went {
		return api.ErrPower
	}
	return api.OK
}

// opened is a store on a disk that is in order.
func opened(t *testing.T, d api.Disk) *Store {
	t.Helper()
	s, err := Open(d)
	if s == nil || err != api.OK {
		t.Fatalf("Open = %v, %d", s, err)
	}
	return s
}

func openIs(t *testing.T, d api.Disk, want api.Errno) {
	t.Helper()
	if s, err := Open(d); s != nil || err != want {
		t.Errorf("Open = %v, %d; want nil, %d", s, err, want)
	}
}

func textIs(t *testing.T, s *Store, want string, wantErr api.Errno) {
	t.Helper()
	if got, err := s.Text(); got != want || err != wantErr {
		t.Errorf("Text = %.60q (%d bytes), %d; want %.60q (%d bytes), %d", got, len(got), err, want, len(want), wantErr)
	}
}

func saveIs(t *testing.T, s *Store, text string, want api.Errno) {
	t.Helper()
	if err := s.Save(text); err != want {
		t.Errorf("Save(%.60q of %d bytes) = %d; want %d", text, len(text), err, want)
	}
}

// someTexts: short and long ones, and such as fill sectors just up to their ends.
func someTexts() []string {
	return []string{
		"", "a", "\x00", "\x00\xff", strings.Repeat("\x00", api.SectorSize), strings.Repeat("b", api.SectorSize-1), strings.Repeat("c", api.SectorSize), strings.Repeat("d", api.SectorSize+1),
		strings.Repeat("two", 50), strings.Repeat("e", 1984), strings.Repeat("f", 1985), strings.Repeat("g", api.MaxStored-1), strings.Repeat("h", api.MaxStored), strings.Repeat("\x00", api.MaxStored),
	}
}

// keeping is a disk of a store that was handed some texts, one behind the other.
func keeping(t *testing.T, texts ...string) *worn {
	t.Helper()
	d := newWorn(api.MinSectors)
	s := opened(t, d)
	for _, text := range texts {
		saveIs(t, s, text, api.OK)
	}
	return d
}
