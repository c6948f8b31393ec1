package store

import (
	"strings"
	"testing"

	"paycycle/api"
	"paycycle/plain"
)

// odd is a disk that does what is told by functions, if there are any.
type odd struct {
	*worn
	sectors func() int
	read    func(int) (string, api.Errno)
	write   func(int, string) api.Errno
}

func (d odd) Sectors() int {
	if d.sectors != nil {
		return d.sectors()
	}
	return d.worn.Sectors()
}

func (d odd) Read(i int) (string, api.Errno) {
	if d.read != nil {
		return d.read(i)
	}
	return d.worn.Read(i)
}

func (d odd) Write(i int, sector string) api.Errno {
	if d.write != nil {
		return d.write(i, sector)
	}
	return d.worn.Write(i, sector)
}

func TestP1NoDisk(t *testing.T) {
	openIs(t, nil, api.ErrMany)
	if s, err := Open((*plain.Disk)(nil)); s != nil || err == api.OK {
		t.Errorf("Open = %v, %d", s, err)
	}
	for _, s := range []*Store{nil, {}} {
		textIs(t, s, "", api.ErrState)
		saveIs(t, s, "text", api.ErrState)
		saveIs(t, s, strings.Repeat("x", api.MaxStored+1), api.ErrState)
	}
}

func TestP1DisksThatPanic(t *testing.T) {
	if s, err := Open(odd{worn: newWorn(api.MinSectors), sectors: func() int { panic("no") }}); s != nil || err == api.OK {
		t.Errorf("Open = %v, %d", s, err)
	}
	openIs(t, odd{worn: newWorn(api.MinSectors), read: func(int) (string, api.Errno) { panic("no") }}, api.ErrPower)
	d := keeping(t, "kept")
	s := opened(t, odd{worn: d, write: func(int, string) api.Errno { panic("no") }})
	textIs(t, s, "kept", api.OK)
	saveIs(t, s, "text", api.ErrPower)
	textIs(t, s, "", api.ErrPower)
	textIs(t, opened(t, d), "kept", api.OK)
}

// TestP1SectorsOfOtherSizes: a disk that reads what is too short, or too long.
func TestP1SectorsOfOtherSizes(t *testing.T) {
	for _, n := range []int{0, 1, 2, 3, 63, 65, 4096} {
		sector := strings.Repeat("\x00", n)
		openIs(t, odd{worn: newWorn(api.MinSectors), read: func(int) (string, api.Errno) { return sector, api.OK }}, api.ErrForm)
		d := keeping(t, strings.Repeat("kept", 100))
		s := opened(t, odd{worn: d, read: func(i int) (string, api.Errno) {
			if i > 0 {
				return sector, api.OK
			}
			return d.Read(i)
		}})
		textIs(t, s, "", api.ErrForm)
		saveIs(t, s, "text", api.OK)
		textIs(t, opened(t, d), "text", api.OK)
	}
}

// TestP1OtherErrors: what a disk says is told, with nothing beside it, and what was kept is kept.
func TestP1OtherErrors(t *testing.T) {
	openIs(t, odd{worn: newWorn(api.MinSectors), read: func(int) (string, api.Errno) { return "x", api.ErrRange }}, api.ErrRange)
	for bad := range 33 { // the sectors of the text, and the head
		d := keeping(t, "before", strings.Repeat("kept", 500))
		writes := 0
		o := odd{worn: d, write: func(i int, sector string) api.Errno {
			if writes++; writes > bad {
				return api.ErrRange
			}
			return d.Write(i, sector)
		}}
		s := opened(t, o)
		saveIs(t, s, strings.Repeat("next", 500), api.ErrRange)
		textIs(t, s, strings.Repeat("kept", 500), api.OK)
	}
}

// P2 and P3: a store sees what is on its disk, and nothing else.
func TestDiskIsSeen(t *testing.T) {
	d := keeping(t, "one")
	s := opened(t, d)
	saved := d.again(-1, false)
	saveIs(t, s, "two", api.OK)
	textIs(t, s, "two", api.OK)
	d.sectors = saved.sectors
	textIs(t, s, "one", api.OK)
}
