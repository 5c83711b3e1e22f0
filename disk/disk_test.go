package disk_test

import (
	"bytes"
	"math"
	"slices"
	"testing"

	"firkin/api"
	"firkin/disk"
	"firkin/world"
)

const (
	size = api.SectorSize
	half = size / 2
)

// far is numbers that are no sector's, and no byte's, of any disk.
func far() []int {
	return []int{-1, -2, -63, -64, -65, math.MinInt, math.MinInt + 1, math.MaxInt, math.MaxInt - 1, 1 << 32, 1<<58 + 1, 1024 * size}
}

// lost is numbers by which nothing is kept.
func lost() []int {
	return []int{api.KeLost, -1, -2, -3, 4, 5, 255, 256, 257, 258, 259, 1<<32 + 1, 1<<32 + 2, math.MaxInt, math.MinInt, math.MinInt + 1, math.MinInt + 2, math.MinInt + 3}
}

// unmade is disks that New did not make.
func unmade() []*disk.Disk {
	return []*disk.Disk{nil, {}, new(disk.Disk)}
}

// of is a sector's bytes, each one unlike its neighbours, and unlike those of another seed at the same place.
func of(seed int) []byte {
	b := make([]byte, size)
	for i := range b {
		b[i] = byte(seed*31 + i + 1)
	}
	return b
}

// halves is the first half of one sector, and the last one of another.
func halves(front, back []byte) []byte {
	return append(bytes.Clone(front[:half]), back[half:]...)
}

// wantErr is whether a call was answered as it should be.
func wantErr(t *testing.T, what string, got, want api.Errno) {
	t.Helper()
	if got != want {
		t.Errorf("%s is answered %d, want %d", what, got, want)
	}
}

// wantBytes is whether sector i has these bytes.
func wantBytes(t *testing.T, what string, d *disk.Disk, i int, want []byte) {
	t.Helper()
	if got, err := d.Read(i); err != api.OK || !bytes.Equal(got, want) {
		t.Errorf("%s: sector %d has %x and error %d, want %x", what, i, got, err, want)
	}
}

// wantPending is whether these sectors are pending.
func wantPending(t *testing.T, what string, d *disk.Disk, want ...int) {
	t.Helper()
	if got := d.Pending(); !slices.Equal(got, want) {
		t.Errorf("%s: pending are %d, want %d", what, got, want)
	}
}

// wantSteps is whether so many steps were done, and nothing was asked.
func wantSteps(t *testing.T, what string, w *world.World, want int) {
	t.Helper()
	if w.Steps() != want || w.Asked() != 0 {
		t.Errorf("%s: %d steps, %d asked, want %d and none", what, w.Steps(), w.Asked(), want)
	}
}

// made is a disk of so many sectors, and its world.
func made(t *testing.T, sectors int) (*disk.Disk, *world.World) {
	t.Helper()
	w := world.New()
	d, err := disk.New(w, sectors)
	if d == nil || err != api.OK {
		t.Fatalf("New of %d sectors is %v and error %d", sectors, d, err)
	}
	return d, w
}

// write gives sector i the bytes of a seed.
func write(t *testing.T, d *disk.Disk, i, seed int) {
	t.Helper()
	wantErr(t, "Write", d.Write(i, of(seed)), api.OK)
}

// P25.1, P25.2: the examples of the chapter.
func TestExamples(t *testing.T) {
	d, _ := made(t, 3)
	write(t, d, 1, 5)
	d.Crash(nil)
	wantBytes(t, "Write, Crash", d, 1, make([]byte, size))
	write(t, d, 1, 5)
	wantErr(t, "Sync", d.Sync(), api.OK)
	d.Crash(nil)
	wantBytes(t, "Write, Sync, Crash", d, 1, of(5))
}

// P25.1: a disk has as many sectors of noughts as are asked for, and the world that it was given.
func TestNew(t *testing.T) {
	for _, sectors := range []int{1, 2, 3, 63, 64, 65, 1023, 1024} {
		d, w := made(t, sectors)
		if d.Size() != sectors || d.World() != w {
			t.Errorf("New of %d sectors has %d, its world: %v", sectors, d.Size(), d.World() == w)
		}
		wantPending(t, "New", d)
		for i := range sectors {
			wantBytes(t, "New", d, i, make([]byte, size))
		}
		wantSteps(t, "New", w, 0)
	}
}

// P25.1: ErrNil of a world that world.New did not make, ahead of ErrArg of a wrong number of sectors.
func TestNewOfWrongArguments(t *testing.T) {
	for _, sectors := range append(far(), 0, 1025, 1026, 2048) {
		if d, err := disk.New(world.New(), sectors); d != nil || err != api.ErrArg {
			t.Errorf("New of %d sectors is %v and error %d", sectors, d, err)
		}
	}
	for _, w := range []*world.World{nil, {}, new(world.World)} {
		for _, sectors := range append(far(), 0, 1, 2, 1024, 1025) {
			if d, err := disk.New(w, sectors); d != nil || err != api.ErrNil {
				t.Errorf("New of no world and %d sectors is %v and error %d", sectors, d, err)
			}
		}
	}
}

// P25.1: of a dead world, a disk is made all the same.
func TestNewOfDeadWorld(t *testing.T) {
	w := world.New()
	w.Fuse(0)
	d, err := disk.New(w, 2)
	if d.Size() != 2 || d.World() != w || err != api.OK {
		t.Errorf("New of a dead world has %d sectors and error %d", d.Size(), err)
	}
	w.Up()
	wantBytes(t, "Up", d, 1, make([]byte, size))
}

// P25.1, P25.2: of a nil Disk, and one that New did not make, all is ErrNil, ahead of ErrArg, or nothing.
func TestUnmade(t *testing.T) {
	for _, d := range unmade() {
		for range 2 {
			for _, i := range append(far(), 0, 1) {
				if b, err := d.Read(i); len(b) != 0 || err != api.ErrNil {
					t.Errorf("Read(%d) is %x and error %d", i, b, err)
				}
				for _, b := range [][]byte{nil, make([]byte, 1), of(1), make([]byte, size+1)} {
					wantErr(t, "Write", d.Write(i, b), api.ErrNil)
				}
				if d.Spoil(api.Spoil{At: i, By: 1}) || d.Spoil(api.Spoil{At: i}) {
					t.Errorf("Spoil at %d", i)
				}
			}
			wantErr(t, "Sync", d.Sync(), api.ErrNil)
			wantPending(t, "unmade", d)
			if d.Size() != 0 || d.World() != nil {
				t.Errorf("Size is %d, World is %v", d.Size(), d.World())
			}
			d.Crash(nil)
			d.Crash([]int{api.KeKept, api.KeFront})
		}
	}
}

// P25.1: what is written is read, and pending till it is synced; the other sectors are as they were.
func TestWriteAndSync(t *testing.T) {
	d, w := made(t, 5)
	write(t, d, 3, 1)
	write(t, d, 0, 2)
	write(t, d, 4, 3)
	write(t, d, 3, 4)
	wantPending(t, "Write", d, 0, 3, 4)
	for i, want := range [][]byte{of(2), make([]byte, size), make([]byte, size), of(4), of(3)} {
		wantBytes(t, "Write", d, i, want)
	}
	wantErr(t, "Sync", d.Sync(), api.OK)
	wantPending(t, "Sync", d)
	for i, want := range [][]byte{of(2), make([]byte, size), make([]byte, size), of(4), of(3)} {
		wantBytes(t, "Sync", d, i, want)
	}
	wantSteps(t, "4 writes and a sync", w, 5)
	write(t, d, 2, 5)
	wantPending(t, "Write behind Sync", d, 2)
}

// P25.1: a sector that is written as it is already is pending too.
func TestWriteOfTheSame(t *testing.T) {
	d, w := made(t, 2)
	wantErr(t, "Write of noughts", d.Write(1, make([]byte, size)), api.OK)
	wantPending(t, "Write of noughts", d, 1)
	wantErr(t, "Sync", d.Sync(), api.OK)
	write(t, d, 0, 1)
	wantErr(t, "Sync", d.Sync(), api.OK)
	write(t, d, 0, 1)
	wantPending(t, "Write of the same", d, 0)
	wantErr(t, "Sync", d.Sync(), api.OK)
	wantErr(t, "Sync of nothing", d.Sync(), api.OK)
	wantSteps(t, "writes and syncs", w, 7)
}

// P25.1: ErrArg of a sector that there is not, or of bytes that are none's; it is no step, and nothing has changed.
func TestWrongWrites(t *testing.T) {
	d, w := made(t, 4)
	write(t, d, 2, 1)
	for range 2 { // and of a dead world
		for _, i := range append(far(), 4, 5, 64, 1023) {
			wantErr(t, "Write of no sector", d.Write(i, of(2)), api.ErrArg)
			wantErr(t, "Write of no sector and no bytes", d.Write(i, nil), api.ErrArg)
			if b, err := d.Read(i); len(b) != 0 || err != api.ErrArg {
				t.Errorf("Read(%d) is %x and error %d", i, b, err)
			}
		}
		for _, n := range []int{0, 1, 31, 32, 33, 62, 63, 65, 66, 96, 127, 128, 192, 1 << 16} {
			wantErr(t, "Write of wrong bytes", d.Write(2, make([]byte, n)), api.ErrArg)
		}
		wantErr(t, "Write of nil", d.Write(2, nil), api.ErrArg)
		wantPending(t, "wrong ones", d, 2)
		wantSteps(t, "wrong ones", w, 1)
		w.Fuse(0)
	}
	w.Up()
	wantBytes(t, "wrong ones", d, 2, of(1))
	wantBytes(t, "wrong ones", d, 3, make([]byte, size))
}

// P25.1: a disk of 1024 sectors has each of them.
func TestLastSector(t *testing.T) {
	d, _ := made(t, 1024)
	for _, i := range []int{0, 511, 512, 1022, 1023} {
		write(t, d, i, i)
	}
	wantPending(t, "Write", d, 0, 511, 512, 1022, 1023)
	wantErr(t, "Write beyond", d.Write(1024, of(1)), api.ErrArg)
	d.Crash([]int{api.KeKept, api.KeLost, api.KeFront, api.KeBack, api.KeKept})
	noughts := make([]byte, size)
	for i, want := range map[int][]byte{0: of(0), 511: noughts, 512: halves(of(512), noughts), 1022: halves(noughts, of(1022)), 1023: of(1023)} {
		wantBytes(t, "Crash", d, i, want)
	}
}

// P25.1: without power nothing is written, synced or read; nothing has changed; the last step is done whole.
func TestWithoutPower(t *testing.T) {
	d, w := made(t, 3)
	write(t, d, 0, 1)
	wantErr(t, "Sync", d.Sync(), api.OK)
	w.Fuse(1)
	write(t, d, 1, 2)
	for range 2 {
		wantErr(t, "Write, dead", d.Write(2, of(3)), api.ErrDead)
		wantErr(t, "Write again, dead", d.Write(1, of(3)), api.ErrDead)
		wantErr(t, "Sync, dead", d.Sync(), api.ErrDead)
		for i := range 3 {
			if b, err := d.Read(i); len(b) != 0 || err != api.ErrDead {
				t.Errorf("Read(%d), dead, is %x and error %d", i, b, err)
			}
		}
		wantPending(t, "dead", d, 1)
	}
	if d.Size() != 3 || d.World() != w {
		t.Errorf("Size, dead, is %d", d.Size())
	}
	wantSteps(t, "dead", w, 3)
	w.Up()
	for i, want := range [][]byte{of(1), of(2), make([]byte, size)} {
		wantBytes(t, "Up", d, i, want)
	}
	w.Fuse(1)
	wantErr(t, "Sync with the last step", d.Sync(), api.OK)
	wantPending(t, "Sync with the last step", d)
	w.Up()
	d.Crash(nil)
	wantBytes(t, "Crash", d, 1, of(2))
}

// P25.1: a step that the world refuses because it is none any more is told as the world tells it.
func TestWorldThatIsNone(t *testing.T) {
	d, w := made(t, 1)
	*w = world.World{}
	wantErr(t, "Write", d.Write(0, of(1)), api.ErrNil)
	wantErr(t, "Sync", d.Sync(), api.ErrNil)
	wantPending(t, "no world", d)
}

// P25.1: reading is no step, and the faults are the requests' alone.
func TestReadIsNoStep(t *testing.T) {
	d, w := made(t, 2)
	w.Faults([]int{api.FtLost, api.FtDone})
	w.Fuse(3)
	for range 9 {
		wantBytes(t, "Read", d, 0, make([]byte, size))
		wantPending(t, "Read", d)
		d.Crash(nil)
		d.Spoil(api.Spoil{At: 1})
	}
	wantSteps(t, "Read", w, 0)
	write(t, d, 0, 1)
	wantErr(t, "Sync", d.Sync(), api.OK)
	wantErr(t, "Put", w.Put("a", nil), api.ErrAway)
	wantErr(t, "Sync", d.Sync(), api.ErrDead)
}

// P25.2: a pending sector is, behind a crash, as keep says, half by half; and that is sure.
func TestCrash(t *testing.T) {
	was, now := of(1), of(2)
	wants := map[int][]byte{api.KeKept: now, api.KeFront: halves(now, was), api.KeBack: halves(was, now)}
	for _, keep := range lost() {
		wants[keep] = was
	}
	for keep, want := range wants {
		d, w := made(t, 2)
		write(t, d, 1, 1)
		wantErr(t, "Sync", d.Sync(), api.OK)
		write(t, d, 1, 7)
		write(t, d, 1, 2)
		wantBytes(t, "ahead of the crash", d, 1, now)
		d.Crash([]int{keep})
		wantPending(t, "Crash", d)
		wantBytes(t, "Crash", d, 1, want)
		wantBytes(t, "Crash", d, 0, make([]byte, size))
		d.Crash([]int{api.KeLost, api.KeLost})
		wantBytes(t, "Crash twice", d, 1, want)
		write(t, d, 1, 9)
		d.Crash(nil)
		wantBytes(t, "Write, Crash", d, 1, want)
		wantSteps(t, "Crash", w, 5)
	}
}

// P25.2: keep is of the pending sectors alone, rising, whatever the order in which they were written; beyond its end nothing is kept.
func TestKeepsOrder(t *testing.T) {
	noughts := make([]byte, size)
	keep := []int{api.KeBack, api.KeKept, api.KeLost, api.KeFront, api.KeKept, api.KeKept, api.KeKept}
	for n := range len(keep) + 1 {
		d, _ := made(t, 9)
		for _, i := range []int{8, 3, 1, 6, 5, 3} {
			write(t, d, i, i)
		}
		wants := [][]byte{halves(noughts, of(1)), of(3), noughts, halves(of(6), noughts), of(8)}
		d.Crash(keep[:n])
		for k, i := range []int{1, 3, 5, 6, 8} {
			want := noughts
			if k < n {
				want = wants[k]
			}
			wantBytes(t, "Crash", d, i, want)
		}
		for _, i := range []int{0, 2, 4, 7} {
			wantBytes(t, "Crash of what is not pending", d, i, noughts)
		}
		wantPending(t, "Crash", d)
	}
}

// P25.2: a crash of nothing that is pending changes nothing, whatever is kept.
func TestCrashOfNothing(t *testing.T) {
	d, _ := made(t, 2)
	write(t, d, 0, 1)
	wantErr(t, "Sync", d.Sync(), api.OK)
	d.Crash([]int{api.KeLost, api.KeKept, api.KeFront, api.KeBack})
	wantBytes(t, "Crash", d, 0, of(1))
	wantBytes(t, "Crash", d, 1, make([]byte, size))
}

// P25.2: a crash, and a byte that is turned, are whether the world is dead or not, and leave its power as it is.
func TestCrashOfDeadWorld(t *testing.T) {
	d, w := made(t, 2)
	w.Fuse(1)
	write(t, d, 0, 1)
	if d.Spoil(api.Spoil{At: 70, By: 1}) {
		t.Error("Spoil with a sector pending")
	}
	d.Crash([]int{api.KeFront})
	wantPending(t, "Crash", d)
	if !w.Dead() || !d.Spoil(api.Spoil{At: 64, By: 3}) || !w.Dead() {
		t.Error("the world is not dead, or no byte is turned")
	}
	w.Up()
	wantBytes(t, "Up", d, 0, halves(of(1), make([]byte, size)))
	wantBytes(t, "Up", d, 1, append([]byte{3}, make([]byte, size-1)...))
	write(t, d, 0, 2)
	d.Crash(nil)
	if w.Dead() {
		t.Error("a crash takes the power")
	}
	wantSteps(t, "crashes", w, 2)
}

// P25.2: each byte of the disk is turned, alone, and surely.
func TestSpoil(t *testing.T) {
	for at := range 3 * size {
		d, w := made(t, 3)
		var wants [][]byte
		for i := range 3 {
			write(t, d, i, i)
			wants = append(wants, of(i))
		}
		wantErr(t, "Sync", d.Sync(), api.OK)
		wants[at/size][at%size] ^= byte(at + 1)
		if !d.Spoil(api.Spoil{At: at, By: byte(at + 1)}) {
			t.Errorf("no Spoil at %d", at)
		}
		wantPending(t, "Spoil", d)
		for range 2 {
			for i, want := range wants {
				wantBytes(t, "Spoil", d, i, want)
			}
			d.Crash(nil)
		}
		for i := range 3 {
			write(t, d, i, 9)
		}
		d.Crash(nil)
		for i, want := range wants {
			wantBytes(t, "Spoil, Write, Crash", d, i, want)
		}
		wantSteps(t, "Spoil", w, 7)
	}
}

// P25.2: By is any byte; of nought it turns nothing, and of the same twice it is as it was.
func TestSpoilBy(t *testing.T) {
	d, _ := made(t, 1)
	write(t, d, 0, 3)
	wantErr(t, "Sync", d.Sync(), api.OK)
	for by := range 256 {
		want := of(3)
		want[17] ^= byte(by)
		for _, want := range [][]byte{want, of(3)} {
			if !d.Spoil(api.Spoil{At: 17, By: byte(by)}) {
				t.Errorf("no Spoil by %d", by)
			}
			wantBytes(t, "Spoil", d, 0, want)
		}
	}
}

// P25.2: no byte is turned while a sector is pending, or where there is none.
func TestWrongSpoils(t *testing.T) {
	d, _ := made(t, 3)
	for _, at := range append(far(), 3*size, 3*size+1, 4*size, 1024*size-1) {
		if d.Spoil(api.Spoil{At: at, By: 1}) || d.Spoil(api.Spoil{At: at}) {
			t.Errorf("Spoil at %d", at)
		}
	}
	for i := range 3 {
		wantBytes(t, "no Spoil", d, i, make([]byte, size))
	}
	for i := range 3 {
		write(t, d, i, 1)
		for at := range 3 * size {
			if d.Spoil(api.Spoil{At: at, By: 1}) {
				t.Errorf("Spoil at %d, with sector %d pending", at, i)
			}
		}
		wantBytes(t, "no Spoil", d, i, of(1))
		d.Crash(nil)
		for i := range 3 {
			wantBytes(t, "no Spoil, Crash", d, i, make([]byte, size))
		}
	}
	if !d.Spoil(api.Spoil{At: 3*size - 1, By: 1}) {
		t.Error("no Spoil behind a crash")
	}
}

// P25.1, P25.2: what is handed in and answered is not shared with the disk, and what is handed in is not changed.
func TestSharesNothing(t *testing.T) {
	d, _ := made(t, 2)
	b := of(1)
	wantErr(t, "Write", d.Write(0, b), api.OK)
	if !bytes.Equal(b, of(1)) {
		t.Error("Write changes its bytes")
	}
	clear(b)
	wantBytes(t, "bytes cleared behind Write", d, 0, of(1))
	got, _ := d.Read(0)
	again, _ := d.Read(0)
	clear(got)
	wantBytes(t, "bytes cleared behind Read", d, 0, of(1))
	_ = append(got[:0], again...)
	clear(got[:cap(got)])
	if !bytes.Equal(again, of(1)) {
		t.Error("two answers share bytes")
	}
	clear(d.Pending())
	write(t, d, 1, 2)
	l := d.Pending()
	l[0], l[1] = 7, 7
	wantPending(t, "a list changed", d, 0, 1)
	keep := []int{api.KeFront, api.KeBack}
	d.Crash(keep)
	if !slices.Equal(keep, []int{api.KeFront, api.KeBack}) {
		t.Error("Crash changes its list")
	}
	noughts := make([]byte, size)
	wantBytes(t, "Crash", d, 0, halves(of(1), noughts))
	write(t, d, 0, 4)
	wantErr(t, "Sync", d.Sync(), api.OK)
	write(t, d, 0, 5)
	d.Crash(nil)
	wantBytes(t, "Sync, Write, Crash", d, 0, of(4))
}

// P25.1: two disks of one world have its power together, and no sector.
func TestDisksOfOneWorld(t *testing.T) {
	d, w := made(t, 2)
	other, err := disk.New(w, 1)
	wantErr(t, "New", err, api.OK)
	write(t, d, 0, 1)
	write(t, other, 0, 2)
	wantErr(t, "Sync", d.Sync(), api.OK)
	wantPending(t, "Sync", d)
	wantPending(t, "Sync of the other", other, 0)
	other.Crash([]int{api.KeBack})
	wantBytes(t, "Crash of the other", d, 0, of(1))
	wantBytes(t, "Crash", other, 0, halves(make([]byte, size), of(2)))
	w.Fuse(0)
	wantErr(t, "Sync", d.Sync(), api.ErrDead)
	wantErr(t, "Sync", other.Sync(), api.ErrDead)
	wantSteps(t, "both", w, 3)
}

// source draws numbers.
type source uint32

// below is the next number, from 0 to n-1.
func (s *source) below(n int) int {
	*s = *s*1664525 + 1013904223
	return int(*s>>8) % n
}

// plain is a disk as the chapter tells of it: all that was written to each sector since it was sure, behind what it surely was.
type plain struct {
	told [][][]byte
	fuse int // below 0: endless
}

// step is whether there is power for a step, which it takes.
func (p *plain) step() api.Errno {
	if p.fuse == 0 {
		return api.ErrDead
	}
	if p.fuse > 0 {
		p.fuse--
	}
	return api.OK
}

// write gives sector i these bytes.
func (p *plain) write(i int, b []byte) api.Errno {
	if i < 0 || i >= len(p.told) || len(b) != size {
		return api.ErrArg
	}
	err := p.step()
	if err == api.OK {
		p.told[i] = append(p.told[i], bytes.Clone(b))
	}
	return err
}

// sync makes all sectors sure.
func (p *plain) sync() api.Errno {
	err := p.step()
	if err == api.OK {
		for i, l := range p.told {
			p.told[i] = l[len(l)-1:]
		}
	}
	return err
}

// pending is the sectors that were written since they were sure.
func (p *plain) pending() []int {
	var places []int
	for i, l := range p.told {
		if len(l) > 1 {
			places = append(places, i)
		}
	}
	return places
}

// crash lets each pending sector be as keep says.
func (p *plain) crash(keep []int) {
	for k, i := range p.pending() {
		was, now := p.told[i][0], p.told[i][len(p.told[i])-1]
		left := was
		if k < len(keep) && keep[k] == 1 {
			left = now
		}
		if k < len(keep) && keep[k] == 2 {
			left = halves(now, was)
		}
		if k < len(keep) && keep[k] == 3 {
			left = halves(was, now)
		}
		p.told[i] = [][]byte{left}
	}
}

// spoil turns a byte.
func (p *plain) spoil(at int, by byte) bool {
	if len(p.pending()) > 0 || at < 0 || at >= len(p.told)*size {
		return false
	}
	b := bytes.Clone(p.told[at/size][0])
	b[at%size] ^= by
	p.told[at/size] = [][]byte{b}
	return true
}

// same is whether d is as p, with the world's power as it is.
func same(t *testing.T, d *disk.Disk, p *plain) {
	t.Helper()
	wantPending(t, "drawn", d, p.pending()...)
	for i, l := range p.told {
		if p.fuse != 0 {
			wantBytes(t, "drawn", d, i, l[len(l)-1])
		} else if b, err := d.Read(i); len(b) != 0 || err != api.ErrDead {
			t.Errorf("drawn, dead: sector %d has %x and error %d", i, b, err)
		}
	}
}

// drawn does a drawn thing to both, and is whether they answered the same.
func drawn(t *testing.T, s *source, d *disk.Disk, w *world.World, p *plain) {
	t.Helper()
	switch kind := s.below(12); kind {
	case 0, 1, 2, 3, 4:
		i, b := s.below(len(p.told)+2)-1, of(s.below(256))
		if s.below(9) == 0 {
			b = b[:s.below(size)]
		}
		wantErr(t, "Write, drawn", d.Write(i, b), p.write(i, b))
	case 5, 6:
		wantErr(t, "Sync, drawn", d.Sync(), p.sync())
	case 7, 8:
		keep := make([]int, s.below(5))
		for k := range keep {
			keep[k] = s.below(6) - 1
		}
		d.Crash(keep)
		p.crash(keep)
	case 9:
		x := api.Spoil{At: s.below((len(p.told)+2)*size) - size, By: byte(s.below(256))}
		if got, want := d.Spoil(x), p.spoil(x.At, x.By); got != want {
			t.Errorf("Spoil, drawn, is %v, want %v", got, want)
		}
	case 10:
		n := s.below(9)
		w.Fuse(n)
		if p.fuse != 0 {
			p.fuse = n
		}
	case 11:
		w.Up()
		p.fuse = -1
	}
}

// P25.1, P25.2: drawn calls are answered as the chapter has it.
func TestDrawn(t *testing.T) {
	for seed := range 300 {
		s := source(seed)
		d, w := made(t, 1+s.below(6))
		p := &plain{told: make([][][]byte, d.Size()), fuse: -1}
		for i := range p.told {
			p.told[i] = [][]byte{make([]byte, size)}
		}
		for range 60 {
			drawn(t, &s, d, w, p)
			same(t, d, p)
		}
		if t.Failed() {
			t.Fatalf("seed %d", seed)
		}
	}
}

// P25.3: behind a crash, each half of a sector is as it was sure last, or as it was written since; what was not written is as it was.
func TestHalvesBehindCrash(t *testing.T) {
	for seed := range 300 {
		s := source(seed + 1000)
		d, w := made(t, 4)
		for i := range 4 {
			write(t, d, i, s.below(256))
		}
		wantErr(t, "Sync", d.Sync(), api.OK)
		may := make([][][]byte, 4)
		for i := range may {
			b, _ := d.Read(i)
			may[i] = [][]byte{b}
		}
		w.Fuse(s.below(8))
		for {
			i, b := s.below(4), of(s.below(256))
			if d.Write(i, b) != api.OK {
				break
			}
			may[i] = append(may[i], b)
		}
		d.Crash([]int{s.below(4), s.below(4), s.below(4), s.below(4)})
		w.Up()
		for i, l := range may {
			got, _ := d.Read(i)
			front := slices.ContainsFunc(l, func(b []byte) bool { return bytes.Equal(got[:half], b[:half]) })
			back := slices.ContainsFunc(l, func(b []byte) bool { return bytes.Equal(got[half:], b[half:]) })
			if !front || !back {
				t.Errorf("seed %d: sector %d is %x", seed, i, got)
			}
		}
	}
}
