package disk

type sector [SectorSize]byte

type block [Sectors]sector

// write says what a block is to be.
type write struct {
	at   int
	says block
}

// blockOf takes a text of BlockSize bytes.
func blockOf(s string) block {
	var b block
	for i := range b {
		copy(b[i][:], s[i*SectorSize:])
	}
	return b
}

func (b *block) text() string {
	var s [BlockSize]byte
	for i, x := range b {
		copy(s[i*SectorSize:], x[:])
	}
	return string(s[:])
}
