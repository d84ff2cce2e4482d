package disk

import "stillroom/api"

// Crash: some of what waits is kept.
func (d *Disk) Crash(keep []int) {
	kept := make([]bool, d.Waits())
	for _, i := range keep {
		if i >= 0 && i < len(kept) {
			kept[i] = true
		}
	}
	d.settle(func(i int) bool { return kept[i] })
}

// Rot a bit. It rots where the block stands, so that also what waits for that
// place is hit: whatever a crash keeps, the bit has turned.
func (d *Disk) Rot(k, bit int) error {
	if !d.has(k) || bit < 0 || bit >= 8*api.BlockSize {
		return api.ErrBound
	}
	d.blocks[k].turn(bit)
	for i := range d.waits {
		if w := &d.waits[i]; w.at == k {
			w.data.turn(bit)
		}
	}
	return nil
}

func (b *block) turn(bit int) { b[bit/8] ^= 1 << (bit % 8) }
