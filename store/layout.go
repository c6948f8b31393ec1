package store

import "paycycle/api"

// The first sector of a disk is the head; two halves come behind it, each with room for the longest text. So a text never lies where the one of before does.
const (
	headSector  = 0
	halfSectors = (api.MaxStored + api.SectorSize - 1) / api.SectorSize
)

// head tells in which half the text that is kept lies, and how long it is. That of a new disk, all 0, tells of the empty text.
type head struct{ half, length int }

// sector of a head: a byte for the half, two for the length.
func (h head) sector() string {
	return filled(string([]byte{byte(h.half), byte(h.length >> 8), byte(h.length)}))
}

// headOf a sector, if a store wrote it, or nobody yet.
func headOf(sector string) (head, api.Errno) {
	h := head{half: int(sector[0]), length: int(sector[1])<<8 | int(sector[2])}
	if h.half > 1 || h.length > api.MaxStored || h.sector() != sector {
		return head{}, api.ErrForm
	}
	return h, api.OK
}

// first sector of a half.
func first(half int) int { return headSector + 1 + half*halfSectors }

// sectors that a text of so many bytes takes.
func sectors(length int) int { return (length + api.SectorSize - 1) / api.SectorSize }

// filled makes a whole sector of a piece, with noughts behind it.
func filled(piece string) string {
	var sector [api.SectorSize]byte
	copy(sector[:], piece)
	return string(sector[:])
}
