package cache

import (
	"bytes"
	"math"
	"slices"
	"strconv"
	"strings"
	"testing"

	"cofferdam/api"
	"cofferdam/device"
)

// disks are devices of these sizes.
func disks(t *testing.T, sizes ...int) []*device.Device {
	t.Helper()
	var l []*device.Device
	for _, n := range sizes {
		d, e := device.New(n)
		if e != api.OK {
			t.Fatalf("device.New(%d): %v", n, e)
		}
		l = append(l, d)
	}
	return l
}

// made is a cache that New tells.
func made(t *testing.T, l []*device.Device) *Cache {
	t.Helper()
	c, e := New(l)
	if c == nil || e != api.OK {
		t.Fatalf("New of %d devices: %v, %v", len(l), c, e)
	}
	return c
}

// over is a cache over new devices, and these.
func over(t *testing.T, sizes ...int) (*Cache, []*device.Device) {
	t.Helper()
	l := disks(t, sizes...)
	return made(t, l), l
}

// full is so many bytes, none of them a nought; another seed makes others.
func full(n, seed int) []byte {
	b := make([]byte, n)
	for i := range b {
		b[i] = byte((i*7+seed*31)%255 + 1)
	}
	return b
}

// padded is a sector that holds a text, and noughts behind it.
func padded(text string) []byte {
	return append([]byte(text), make([]byte, 64-len(text))...)
}

// w is a write of a sector that holds a text.
func w(dev, sector int, text string) api.Write {
	return api.Write{Dev: dev, Sector: sector, Data: padded(text)}
}

// write writes what can be written.
func write(t *testing.T, c *Cache, l ...api.Write) {
	t.Helper()
	for _, w := range l {
		if e := c.Write(w.Dev, w.Sector, w.Data); e != api.OK {
			t.Fatalf("Write(%d, %d): %v", w.Dev, w.Sector, e)
		}
	}
}

// keep writes what can be written, and keeps it.
func keep(t *testing.T, c *Cache, l ...api.Write) {
	t.Helper()
	write(t, c, l...)
	c.Keep()
}

// lie writes sectors on a device, past the cache, and makes them safe.
func lie(t *testing.T, d *device.Device, texts ...string) {
	t.Helper()
	for i, text := range texts {
		if e := d.Write(i, padded(text)); e != api.OK {
			t.Fatalf("a device's Write(%d): %v", i, e)
		}
	}
	if e := d.Sync(); e != api.OK {
		t.Fatalf("a device's Sync: %v", e)
	}
}

// seen asks that a device's sectors, from 0 on, are read as these texts; "IO", "DEAD" and "ARG" are errors.
func seen(t *testing.T, what string, c *Cache, dev int, texts ...string) {
	t.Helper()
	errs := map[string]api.Errno{"IO": api.ErrIO, "DEAD": api.ErrDead, "ARG": api.ErrArg}
	for i, text := range texts {
		b, e := c.Read(dev, i)
		if f, fails := errs[text]; fails {
			if e != f || len(b) != 0 {
				t.Errorf("%s: Read(%d, %d): %q, %v; want nothing, %v", what, dev, i, b, e, f)
			}
		} else if e != api.OK || !bytes.Equal(b, padded(text)) {
			t.Errorf("%s: Read(%d, %d): %q, %v; want %q", what, dev, i, b, e, text)
		}
	}
}

// lies asks that a device's sectors, from 0 on, hold these texts.
func lies(t *testing.T, what string, d *device.Device, texts ...string) {
	t.Helper()
	for i, text := range texts {
		if b, e := d.Read(i); e != api.OK || !bytes.Equal(b, padded(text)) {
			t.Errorf("%s: sector %d of a device: %q, %v; want %q", what, i, b, e, text)
		}
	}
}

// counts asks how many writes a device had, and how many of them are not safe.
func counts(t *testing.T, what string, d *device.Device, writes, pending int) {
	t.Helper()
	if d.Writes() != writes || d.Pending() != pending {
		t.Errorf("%s: Writes %d, Pending %d; want %d, %d", what, d.Writes(), d.Pending(), writes, pending)
	}
}

// equal tells whether two lists of writes are the same.
func equal(l, m []api.Write) bool {
	return slices.EqualFunc(l, m, func(v, w api.Write) bool {
		return v.Dev == w.Dev && v.Sector == w.Sector && bytes.Equal(v.Data, w.Data)
	})
}

// shown are writes as a text.
func shown(l []api.Write) string {
	var b strings.Builder
	for _, w := range l {
		b.WriteString(" " + strconv.Itoa(w.Dev) + "/" + strconv.Itoa(w.Sector) + " " + strconv.Quote(strings.TrimRight(string(w.Data), "\x00")))
	}
	return b.String()
}

// waits asks for the open group, for those that were kept, and for Count.
func waits(t *testing.T, what string, c *Cache, open []api.Write, kept ...[]api.Write) {
	t.Helper()
	if g := c.Group(); !equal(g, open) {
		t.Errorf("%s: Group:%s; want%s", what, shown(g), shown(open))
	}
	l := c.Groups()
	if len(l) != len(kept) {
		t.Fatalf("%s: %d groups; want %d", what, len(l), len(kept))
	}
	n := 0
	for i, g := range l {
		if !equal(g, kept[i]) {
			t.Errorf("%s: Groups: group %d:%s; want%s", what, i, shown(g), shown(kept[i]))
		}
		n += len(kept[i])
	}
	if c.Count() != n {
		t.Errorf("%s: Count %d; want %d", what, c.Count(), n)
	}
}

// P17.1 (N1): 1 to 8 devices make a cache without writes, in which the devices are seen.
func TestNew(t *testing.T) {
	if api.MaxDevices != 8 {
		t.Fatalf("MaxDevices %d", api.MaxDevices)
	}
	for n := 1; n <= 8; n++ {
		l := disks(t, slices.Repeat([]int{2}, n)...)
		for i, d := range l {
			lie(t, d, "here", strconv.Itoa(i))
		}
		c := made(t, l)
		waits(t, "New", c, nil)
		for i, d := range l {
			seen(t, "New", c, i, "here", strconv.Itoa(i), "ARG")
			counts(t, "New", d, 2, 0)
		}
		seen(t, "a device too many", c, n, "ARG")
	}
}

// P17.1 (N1): devices may be dead or bad when a cache is made over them.
func TestNewOverFailing(t *testing.T) {
	l := disks(t, 2, 2)
	l[0].Kill()
	l[1].Spoil(1)
	c := made(t, l)
	seen(t, "dead", c, 0, "DEAD", "DEAD", "ARG")
	seen(t, "bad", c, 1, "", "IO", "ARG")
}

// P17.1 (N1): no devices, nine and more, and a list with a nil one are refused.
func TestNewWrong(t *testing.T) {
	refused := func(what string, l []*device.Device) {
		t.Helper()
		if c, e := New(l); c != nil || e != api.ErrArg {
			t.Errorf("%s: %v, %v; want nil, ErrArg", what, c, e)
		}
	}
	refused("nil", nil)
	refused("no devices", []*device.Device{})
	refused("no devices, some behind the list", disks(t, 2, 2)[:0])
	for _, n := range []int{9, 10, 16, 100} {
		refused(strconv.Itoa(n)+" devices", disks(t, slices.Repeat([]int{1}, n)...))
	}
	refused("one device nine times", slices.Repeat(disks(t, 1), 9))
	for n := 1; n <= 9; n++ {
		for none := range n {
			l := disks(t, slices.Repeat([]int{1}, n)...)
			l[none] = nil
			refused("a nil one", l)
		}
		refused("nil ones alone", make([]*device.Device, n))
	}
}

// P17.1 (N2): a sector is read as the open group has it, else the last group kept that has it, else the device.
func TestRead(t *testing.T) {
	c, l := over(t, 6)
	lie(t, l[0], "d0", "d1", "d2", "d3", "d4", "d5")
	seen(t, "only the device", c, 0, "d0", "d1", "d2", "d3", "d4", "d5", "ARG")
	keep(t, c, w(0, 1, "one"), w(0, 2, "one"), w(0, 3, "one"), w(0, 5, "one"))
	seen(t, "a kept group", c, 0, "d0", "one", "one", "one", "d4", "one")
	keep(t, c, w(0, 2, "two"), w(0, 3, "two"))
	seen(t, "two kept groups", c, 0, "d0", "one", "two", "two", "d4", "one")
	write(t, c, w(0, 3, "open"), w(0, 4, "open"), w(0, 5, "open"))
	seen(t, "the open group and kept ones", c, 0, "d0", "one", "two", "open", "open", "open")
	write(t, c, w(0, 3, "again"))
	seen(t, "written again", c, 0, "d0", "one", "two", "again", "open", "open")
	c.Back()
	seen(t, "Back", c, 0, "d0", "one", "two", "two", "d4", "one")
	keep(t, c, w(0, 1, "three"))
	seen(t, "a third kept group", c, 0, "d0", "three", "two", "two", "d4", "one")
	lies(t, "ahead of Apply", l[0], "d0", "d1", "d2", "d3", "d4", "d5")
}

// P17.1 (N2): what is not written by a group is as the device has it when it is read, whoever wrote it there.
func TestReadDeviceAsItIs(t *testing.T) {
	c, l := over(t, 3)
	keep(t, c, w(0, 1, "kept"))
	lie(t, l[0], "past", "past", "past")
	seen(t, "written past the cache", c, 0, "past", "kept", "past")
	l[0].Tamper(0, padded("tampered"))
	l[0].Tamper(1, padded("tampered"))
	seen(t, "tampered with", c, 0, "tampered", "kept", "past")
}

// P17.1 (N2): several devices: sectors of one number are each their own.
func TestSeveralDevices(t *testing.T) {
	c, l := over(t, 2, 3, 1)
	lie(t, l[1], "x", "y", "z")
	write(t, c, w(1, 0, "b0"), w(0, 1, "a1"))
	seen(t, "device 0", c, 0, "", "a1", "ARG", "ARG")
	seen(t, "device 1", c, 1, "b0", "y", "z", "ARG")
	seen(t, "device 2", c, 2, "", "ARG", "ARG")
	c.Keep()
	write(t, c, w(2, 0, "c0"), w(0, 0, "a0"), w(1, 2, "b2"), w(1, 0, "b0b"))
	seen(t, "device 0", c, 0, "a0", "a1", "ARG", "ARG")
	seen(t, "device 1", c, 1, "b0b", "y", "b2", "ARG")
	seen(t, "device 2", c, 2, "c0", "ARG", "ARG")
	waits(t, "several", c, []api.Write{w(2, 0, "c0"), w(0, 0, "a0"), w(1, 2, "b2"), w(1, 0, "b0b")}, []api.Write{w(1, 0, "b0"), w(0, 1, "a1")})
	c.Keep()
	c.Apply()
	lies(t, "device 0", l[0], "a0", "a1")
	lies(t, "device 1", l[1], "b0b", "y", "b2")
	lies(t, "device 2", l[2], "c0")
	counts(t, "device 0", l[0], 2, 0)
	counts(t, "device 1", l[1], 6, 0)
	counts(t, "device 2", l[2], 1, 0)
}

// P17.1 (N2): a sector written more than once in a group is told once, as it was written last, where it was written first.
func TestWrittenAgain(t *testing.T) {
	c, l := over(t, 4, 4)
	write(t, c, w(1, 2, "one"), w(0, 0, "two"), w(1, 2, "three"))
	waits(t, "twice", c, []api.Write{w(1, 2, "three"), w(0, 0, "two")})
	write(t, c, w(0, 2, "four"), w(0, 0, "five"), w(1, 2, "six"), w(0, 0, "seven"), w(0, 0, "seven"))
	waits(t, "three times and more", c, []api.Write{w(1, 2, "six"), w(0, 0, "seven"), w(0, 2, "four")})
	c.Keep()
	waits(t, "kept", c, nil, []api.Write{w(1, 2, "six"), w(0, 0, "seven"), w(0, 2, "four")})
	// A new group has an order of its own.
	write(t, c, w(0, 2, "a"), w(1, 2, "b"), w(0, 2, ""))
	waits(t, "the next group", c, []api.Write{w(0, 2, ""), w(1, 2, "b")}, []api.Write{w(1, 2, "six"), w(0, 0, "seven"), w(0, 2, "four")})
	c.Keep()
	c.Apply()
	counts(t, "Apply", l[0], 3, 0)
	counts(t, "Apply", l[1], 2, 0)
	lies(t, "Apply", l[0], "seven", "", "", "")
	lies(t, "Apply", l[1], "", "", "b", "")
}

// P17.1 (N2): what is written as it lies there already is a write all the same.
func TestWrittenAsItWas(t *testing.T) {
	c, l := over(t, 2)
	lie(t, l[0], "same")
	keep(t, c, w(0, 0, "same"), w(0, 1, ""))
	waits(t, "as it was", c, nil, []api.Write{w(0, 0, "same"), w(0, 1, "")})
	c.Apply()
	counts(t, "as it was", l[0], 3, 0)
}

// P17.1 (N2): Group, Groups and Count behind each step.
func TestKeepAndBack(t *testing.T) {
	c, l := over(t, 4, 4)
	one, two, three := []api.Write{w(0, 1, "one")}, []api.Write{w(1, 1, "two"), w(0, 1, "two")}, []api.Write{w(0, 3, "three")}
	write(t, c, one...)
	waits(t, "Write", c, one)
	c.Keep()
	waits(t, "Keep", c, nil, one)
	c.Keep()
	waits(t, "Keep of an empty group", c, nil, one)
	write(t, c, two...)
	waits(t, "Write behind Keep", c, two, one)
	c.Back()
	waits(t, "Back", c, nil, one)
	c.Back()
	waits(t, "Back of an empty group", c, nil, one)
	c.Keep()
	waits(t, "Keep behind Back", c, nil, one)
	write(t, c, three...)
	c.Keep()
	waits(t, "Keep again", c, nil, one, three)
	write(t, c, two[0])
	waits(t, "the next group's first write", c, two[:1], one, three)
	write(t, c, two[1])
	waits(t, "the next group's second write", c, two, one, three)
	c.Keep()
	waits(t, "a third Keep", c, nil, one, three, two)
	c.Apply()
	waits(t, "Apply", c, nil)
	keep(t, c, three...)
	waits(t, "Keep behind Apply", c, nil, three)
	lies(t, "device 0", l[0], "", "two", "", "three")
	lies(t, "device 1", l[1], "", "two", "", "")
}

// P17.1 (N2): on a cache without writes Keep, Back and Apply change nothing.
func TestNothing(t *testing.T) {
	c, l := over(t, 2)
	for what, do := range map[string]func(){"Keep": c.Keep, "Back": c.Back, "Apply": c.Apply} {
		do()
		waits(t, what, c, nil)
		seen(t, what, c, 0, "", "", "ARG")
		counts(t, what, l[0], 0, 0)
	}
}

// P17.1 (N3): Apply of no group, of one, and of many that write the same sectors over one another.
func TestApply(t *testing.T) {
	c, l := over(t, 4, 4)
	lie(t, l[0], "d0", "d1", "d2", "d3")
	c.Apply()
	lies(t, "no group", l[0], "d0", "d1", "d2", "d3")
	counts(t, "no group", l[0], 4, 0)
	keep(t, c, w(0, 1, "one"), w(1, 3, "one"))
	c.Apply()
	lies(t, "one group", l[0], "d0", "one", "d2", "d3")
	lies(t, "one group", l[1], "", "", "", "one")
	counts(t, "one group", l[0], 5, 0)
	counts(t, "one group", l[1], 1, 0)
	waits(t, "one group", c, nil)
	c.Apply()
	counts(t, "Apply again", l[0], 5, 0)
	counts(t, "Apply again", l[1], 1, 0)
	keep(t, c, w(0, 0, "two"), w(0, 1, "two"), w(1, 0, "two"))
	keep(t, c, w(0, 1, "three"), w(0, 2, "three"), w(0, 1, "four"))
	keep(t, c, w(1, 0, "five"), w(0, 0, "five"))
	keep(t, c, w(0, 2, "six"))
	c.Apply()
	lies(t, "many groups", l[0], "five", "four", "six", "d3")
	lies(t, "many groups", l[1], "five", "", "", "one")
	// Each write of each group is done, though others come over it.
	counts(t, "many groups", l[0], 11, 0)
	counts(t, "many groups", l[1], 3, 0)
	waits(t, "many groups", c, nil)
	c.Apply()
	counts(t, "and again", l[0], 11, 0)
	counts(t, "and again", l[1], 3, 0)
}

// P17.1 (N3): the open group stays when others are applied; it may be kept, and applied, later.
func TestApplyOpenStays(t *testing.T) {
	c, l := over(t, 3)
	keep(t, c, w(0, 0, "kept"), w(0, 1, "kept"))
	open := []api.Write{w(0, 1, "open"), w(0, 2, "open")}
	write(t, c, open...)
	c.Apply()
	waits(t, "Apply", c, open)
	seen(t, "Apply", c, 0, "kept", "open", "open")
	lies(t, "Apply", l[0], "kept", "kept", "")
	counts(t, "Apply", l[0], 2, 0)
	write(t, c, w(0, 1, "more"), w(0, 0, "more"))
	open = []api.Write{w(0, 1, "more"), w(0, 2, "open"), w(0, 0, "more")}
	waits(t, "more", c, open)
	c.Apply()
	waits(t, "Apply of no group", c, open)
	counts(t, "Apply of no group", l[0], 2, 0)
	c.Keep()
	waits(t, "Keep", c, nil, open)
	c.Apply()
	waits(t, "a second Apply", c, nil)
	lies(t, "a second Apply", l[0], "more", "more", "open")
	counts(t, "a second Apply", l[0], 5, 0)
	write(t, c, w(0, 0, "dropped"))
	c.Apply()
	c.Back()
	seen(t, "Back", c, 0, "more", "more", "open")
	counts(t, "Back", l[0], 5, 0)
}

// P17.1 (N3): all devices are synced, those too that no group writes, and those that had writes past the cache.
func TestApplySyncs(t *testing.T) {
	for _, groups := range []int{0, 1, 2} {
		c, l := over(t, 2, 2, 2, 2)
		for _, d := range l[:3] {
			d.Write(1, padded("past"))
		}
		for range groups {
			keep(t, c, w(2, 0, "kept"), w(3, 0, "kept"))
		}
		l[1].Kill()
		c.Apply()
		counts(t, "written past the cache", l[0], 1, 0)
		counts(t, "dead", l[1], 1, 1)
		counts(t, "both", l[2], 1+groups, 0)
		counts(t, "groups alone", l[3], groups, 0)
		lies(t, "power", l[0].Cut(nil), "", "past")
		lies(t, "power", l[2].Cut(nil), []string{"", "kept", "kept"}[groups], "past")
	}
}

// P17.1 (N3): writes come in their order, over all devices, and the syncs behind all of them: power may go at any moment.
func TestApplyInOrder(t *testing.T) {
	c, l := over(t, 2, 2)
	device.Together(l)
	keep(t, c, w(1, 0, "a"), w(0, 0, "b"), w(1, 0, "c"))
	keep(t, c, w(0, 0, "d"), w(1, 1, "e"), w(0, 1, "f"))
	keep(t, c, w(0, 0, "g"))
	c.Apply()
	all := slices.Repeat([]bool{true}, 7)
	for m, held := range [][4]string{
		{"", "", "", ""}, {"", "", "c", ""}, {"b", "", "c", ""}, {"d", "", "c", ""},
		{"d", "", "c", "e"}, {"d", "f", "c", "e"}, {"g", "f", "c", "e"},
	} {
		what := "moment " + strconv.Itoa(m)
		lies(t, what, l[0].CutMoment(m, all), held[:2]...)
		lies(t, what, l[1].CutMoment(m, all), held[2:]...)
		// Ahead of the syncs nothing is safe.
		lies(t, what+", nothing kept", l[0].CutMoment(m, nil), "", "")
		lies(t, what+", nothing kept", l[1].CutMoment(m, nil), "", "")
	}
	if n := l[0].Moment(); n != 6 {
		t.Errorf("%d moments; want 6", n)
	}
	lies(t, "power behind Apply", l[0].Cut(nil), "g", "f")
	lies(t, "power behind Apply", l[1].Cut(nil), "c", "e")
}

// P17.1 (N3): power that is lost behind Apply leaves what was applied, and nothing of what waits.
func TestPowerBehindApply(t *testing.T) {
	c, l := over(t, 3, 3)
	lie(t, l[0], "d0", "d1", "d2")
	keep(t, c, w(0, 1, "one"), w(1, 1, "one"))
	keep(t, c, w(1, 1, "two"), w(1, 2, "two"))
	lies(t, "ahead of Apply", l[0].Cut([]bool{true, true}), "d0", "d1", "d2")
	lies(t, "ahead of Apply", l[1].Cut([]bool{true, true}), "", "", "")
	c.Apply()
	keep(t, c, w(0, 0, "kept"))
	write(t, c, w(0, 2, "open"))
	for _, keep := range [][]bool{nil, {true, true, true}} {
		left := []*device.Device{l[0].Cut(keep), l[1].Cut(keep)}
		lies(t, "behind Apply", left[0], "d0", "one", "d2")
		lies(t, "behind Apply", left[1], "", "two", "two")
		seen(t, "behind Apply, anew", made(t, left), 0, "d0", "one", "d2")
	}
}

// P17.1 (N2): each sector of the greatest devices, the first and the last ones too.
func TestFirstAndLast(t *testing.T) {
	for _, size := range []int{1, 2, 2048} {
		c, l := over(t, slices.Repeat([]int{size}, 8)...)
		for _, dev := range []int{0, 7} {
			for _, sector := range []int{0, size - 1} {
				write(t, c, w(dev, sector, strconv.Itoa(dev)+"/"+strconv.Itoa(sector)))
			}
		}
		for k := range 3 {
			for _, dev := range []int{0, 7} {
				for _, sector := range []int{0, size - 1} {
					want := padded(strconv.Itoa(dev) + "/" + strconv.Itoa(sector))
					if b, e := c.Read(dev, sector); e != api.OK || !bytes.Equal(b, want) {
						t.Errorf("Read(%d, %d), %d: %q, %v", dev, sector, k, b, e)
					}
				}
			}
			[]func(){c.Keep, c.Apply, c.Apply}[k]()
		}
		want := padded("7/" + strconv.Itoa(size-1))
		if b, e := l[7].Read(size - 1); e != api.OK || !bytes.Equal(b, want) {
			t.Errorf("the last sector of the last device: %q, %v", b, e)
		}
	}
}

// P17.1 (N2, N3): a group of 200 writes, of 201, and of all sectors there may be; and as many groups.
func TestMany(t *testing.T) {
	for _, n := range []int{199, 200, 201, 1000, 8 * 2048} {
		c, l := over(t, slices.Repeat([]int{2048}, 8)...)
		var want []api.Write
		for k := range n {
			at := k * 4097 % (8 * 2048)
			want = append(want, api.Write{Dev: at / 2048, Sector: at % 2048, Data: full(64, k)})
		}
		for _, w := range want {
			write(t, c, api.Write{Dev: w.Dev, Sector: w.Sector, Data: full(64, 7)})
		}
		for _, w := range slices.Backward(want) {
			write(t, c, w)
		}
		waits(t, strconv.Itoa(n)+" writes", c, want)
		c.Keep()
		waits(t, strconv.Itoa(n)+" writes, kept", c, nil, want)
		c.Apply()
		waits(t, strconv.Itoa(n)+" writes, applied", c, nil)
		for _, w := range want {
			if b, e := l[w.Dev].Read(w.Sector); e != api.OK || !bytes.Equal(b, w.Data) {
				t.Fatalf("%d writes, applied: sector %d of device %d: %v, %v", n, w.Sector, w.Dev, b, e)
			}
		}
	}
	c, l := over(t, 5)
	var want [][]api.Write
	for k := range 1000 {
		g := []api.Write{w(0, k%4, "group "+strconv.Itoa(k)), w(0, 4, strconv.Itoa(k))}
		keep(t, c, g...)
		want = append(want, g)
	}
	waits(t, "1000 groups", c, nil, want...)
	seen(t, "1000 groups", c, 0, "group 996", "group 997", "group 998", "group 999", "999")
	c.Apply()
	lies(t, "1000 groups", l[0], "group 996", "group 997", "group 998", "group 999", "999")
	counts(t, "1000 groups", l[0], 2000, 0)
}

// P17.1 (N2, N3), N1: a device that stands in the list twice is one: each of its sectors is told once, and what is written under one number is seen under both.
func TestOneDeviceTwice(t *testing.T) {
	l := disks(t, 3, 3)
	c := made(t, []*device.Device{l[0], l[1], l[0]})
	lie(t, l[0], "d0", "d1", "d2")
	bothSee := func(what string, texts ...string) {
		t.Helper()
		seen(t, what, c, 0, texts...)
		seen(t, what, c, 2, texts...)
		seen(t, what+": the other device", c, 1, "", "", "")
	}
	bothSee("New", "d0", "d1", "d2", "ARG")
	write(t, c, w(0, 1, "one"))
	bothSee("written under the first number", "d0", "one", "d2")
	write(t, c, w(2, 2, "two"))
	bothSee("written under the second number", "d0", "one", "two")
	waits(t, "both numbers", c, []api.Write{w(0, 1, "one"), w(2, 2, "two")})
	write(t, c, w(2, 1, "three"))
	bothSee("written under both", "d0", "three", "two")
	if g := c.Group(); len(g) != 2 || g[0].Sector != 1 || !bytes.Equal(g[0].Data, padded("three")) || g[0].Dev == 1 {
		t.Errorf("written under both: Group:%s; want sector 1 once, and first", shown(g))
	}
	c.Keep()
	keep(t, c, w(0, 2, "four"))
	bothSee("a second group", "d0", "three", "four")
	if n := c.Count(); n != 3 {
		t.Errorf("Count %d; want 3", n)
	}
	c.Apply()
	bothSee("Apply", "d0", "three", "four")
	lies(t, "Apply", l[0], "d0", "three", "four")
	counts(t, "Apply", l[0], 6, 0)
	l[0].Kill()
	bothSee("dead", "DEAD", "DEAD", "DEAD")
}

// P17.1 (N1): one device may have all eight numbers.
func TestOneDeviceEightTimes(t *testing.T) {
	l := disks(t, 2)
	c := made(t, slices.Repeat(l, 8))
	for dev := range 8 {
		write(t, c, w(dev, 1, strconv.Itoa(dev)))
		for other := range 8 {
			seen(t, "eight times", c, other, "", strconv.Itoa(dev), "ARG")
		}
		if dev%3 == 1 {
			c.Keep()
		}
	}
	waits(t, "eight times", c, nil, c.Groups()...)
	if n := c.Count(); n != 3 {
		t.Errorf("Count %d; want 3", n)
	}
	c.Apply()
	lies(t, "eight times", l[0], "", "7")
	counts(t, "eight times", l[0], 3, 0)
}

// P17.1 (N2): a dead device is neither read nor written, whatever its groups have; others are.
func TestDead(t *testing.T) {
	c, l := over(t, 3, 3)
	lie(t, l[0], "d0", "d1", "d2")
	keep(t, c, w(0, 0, "kept"), w(1, 0, "kept"))
	write(t, c, w(0, 1, "open"), w(1, 1, "open"))
	l[0].Kill()
	open, kept := []api.Write{w(0, 1, "open"), w(1, 1, "open")}, []api.Write{w(0, 0, "kept"), w(1, 0, "kept")}
	waits(t, "Kill", c, open, kept)
	seen(t, "Kill", c, 0, "DEAD", "DEAD", "DEAD", "ARG")
	seen(t, "Kill: the other device", c, 1, "kept", "open", "", "ARG")
	for sector := range 3 {
		if e := c.Write(0, sector, padded("late")); e != api.ErrDead {
			t.Errorf("Write(0, %d) of a dead device: %v; want ErrDead", sector, e)
		}
	}
	waits(t, "refused", c, open, kept)
	write(t, c, w(1, 2, "late"))
	waits(t, "the other device", c, append(open, w(1, 2, "late")), kept)
	c.Back()
	seen(t, "Back", c, 0, "DEAD", "DEAD", "DEAD", "ARG")
	seen(t, "Back", c, 1, "kept", "", "", "ARG")
}

// P17.1 (N2, N3): a device that dies between Write and Keep, or ahead of Apply: its writes wait, and are passed over; all the others are written and synced.
func TestDies(t *testing.T) {
	for dying := range 3 {
		for _, early := range []bool{true, false} {
			what := "device " + strconv.Itoa(dying)
			c, l := over(t, 2, 2, 2)
			one := []api.Write{w(0, 0, "one"), w(1, 0, "one"), w(2, 0, "one"), w(dying, 1, "one")}
			two := []api.Write{w(2, 0, "two"), w(1, 1, "two"), w(0, 1, "two"), w(2, 1, "two")}
			write(t, c, one...)
			if early {
				l[dying].Kill()
			}
			c.Keep()
			if !early {
				keep(t, c, two...)
				l[dying].Kill()
				waits(t, what, c, nil, one, two)
			} else {
				waits(t, what, c, nil, one)
				for _, w := range two {
					if e := c.Write(w.Dev, w.Sector, w.Data); w.Dev == dying && e != api.ErrDead || w.Dev != dying && e != api.OK {
						t.Errorf("%s: Write(%d, %d): %v", what, w.Dev, w.Sector, e)
					}
				}
				c.Keep()
				waits(t, what, c, nil, one, slices.DeleteFunc(slices.Clone(two), func(w api.Write) bool { return w.Dev == dying }))
			}
			c.Apply()
			waits(t, what+", Apply", c, nil)
			counts(t, what+", dead", l[dying], 0, 0)
			for dev, held := range [][2]string{{"one", "two"}, {"one", "two"}, {"two", "two"}} {
				if dev == dying {
					seen(t, what, c, dev, "DEAD", "DEAD", "ARG")
					continue
				}
				lies(t, what+", the others", l[dev].Cut(nil), held[:]...)
				counts(t, what+", the others", l[dev], 2+dev/2, 0)
				seen(t, what+", the others", c, dev, held[0], held[1], "ARG")
			}
		}
	}
}

// P17.1 (N2): a bad sector is not read, but where a group has it; a write of it, once it is applied, heals it.
func TestBad(t *testing.T) {
	c, l := over(t, 5)
	lie(t, l[0], "d0", "d1", "d2", "d3", "d4")
	l[0].Spoil(0)
	seen(t, "bad ahead of Read", c, 0, "IO", "d1", "d2", "d3", "d4")
	l[0].Spoil(1)
	write(t, c, w(0, 1, "one"), w(0, 2, "one"))
	seen(t, "bad ahead of Write", c, 0, "IO", "one", "one", "d3", "d4")
	l[0].Spoil(2)
	seen(t, "bad behind Write", c, 0, "IO", "one", "one", "d3", "d4")
	c.Keep()
	l[0].Spoil(3)
	write(t, c, w(0, 3, "open"))
	seen(t, "kept and open", c, 0, "IO", "one", "one", "open", "d4")
	c.Apply()
	seen(t, "Apply", c, 0, "IO", "one", "one", "open", "d4")
	for i, bad := range []bool{true, false, false, true, false} {
		if l[0].Bad(i) != bad {
			t.Errorf("Apply: sector %d bad: %v; want %v", i, l[0].Bad(i), bad)
		}
	}
	c.Back()
	seen(t, "Back", c, 0, "IO", "one", "one", "IO", "d4")
	l[0].Kill()
	seen(t, "bad and dead", c, 0, "DEAD", "DEAD", "DEAD", "DEAD", "DEAD", "ARG")
}

// wrongPlaces are sectors that are none, where there are two devices, of 3 and of 5 sectors.
var wrongPlaces = [][2]int{
	{-1, 0}, {2, 0}, {3, 0}, {8, 0}, {math.MinInt, 0}, {math.MaxInt, 0}, {1 << 32, 0}, {-1 << 32, 0},
	{0, -1}, {0, 3}, {0, 4}, {1, -1}, {1, 5}, {1, 2048}, {0, math.MinInt}, {0, math.MaxInt}, {1, math.MinInt}, {1, math.MaxInt}, {0, 1 << 32}, {1, -1 << 32},
	{-1, -1}, {2, 5}, {math.MinInt, math.MinInt}, {math.MaxInt, math.MaxInt}, {math.MinInt, math.MaxInt}, {-1, math.MaxInt},
}

// wrongLengths are numbers of bytes that no sector has.
var wrongLengths = []int{0, 1, 32, 63, 65, 66, 128, 4096}

// P17.1 (N2), rule 3: no such device or sector, or another number of bytes than 64: ErrArg, be the devices dead or not, and nothing is changed.
func TestWrong(t *testing.T) {
	for _, dead := range []bool{false, true} {
		c, l := over(t, 3, 5)
		kept, open := []api.Write{w(0, 2, "kept"), w(1, 4, "kept")}, []api.Write{w(1, 4, "open"), w(0, 0, "open")}
		keep(t, c, kept...)
		write(t, c, open...)
		l[1].Spoil(3)
		if dead {
			l[0].Kill()
			l[1].Kill()
		}
		for _, p := range wrongPlaces {
			if b, e := c.Read(p[0], p[1]); len(b) != 0 || e != api.ErrArg {
				t.Errorf("Read(%d, %d): %v, %v; want nothing, ErrArg", p[0], p[1], b, e)
			}
			for _, n := range append(wrongLengths, 64) {
				if e := c.Write(p[0], p[1], full(n, 1)); e != api.ErrArg {
					t.Errorf("Write(%d, %d, %d bytes): %v; want ErrArg", p[0], p[1], n, e)
				}
			}
		}
		for _, n := range wrongLengths {
			for _, p := range [][2]int{{0, 0}, {0, 1}, {0, 2}, {1, 3}, {1, 4}} {
				if e := c.Write(p[0], p[1], full(n, 1)); e != api.ErrArg {
					t.Errorf("Write(%d, %d, %d bytes), dead %v: %v; want ErrArg", p[0], p[1], n, dead, e)
				}
			}
		}
		if e := c.Write(0, 0, nil); e != api.ErrArg {
			t.Errorf("Write of nil: %v; want ErrArg", e)
		}
		waits(t, "wrong", c, open, kept)
		counts(t, "wrong", l[0], 0, 0)
		counts(t, "wrong", l[1], 0, 0)
		if dead {
			continue
		}
		seen(t, "wrong", c, 0, "open", "", "kept", "ARG")
		seen(t, "wrong", c, 1, "", "", "", "IO", "open", "ARG")
	}
}

// P17.1, rule 4: of a sector's bytes in a greater memory, and of a list's devices, only what lies within the length counts.
func TestBehindTheLength(t *testing.T) {
	memory := full(200, 3)
	c, _ := over(t, 2)
	for _, n := range []int{0, 63, 65} {
		if e := c.Write(0, 0, memory[:n]); e != api.ErrArg {
			t.Errorf("Write of %d bytes of 200: %v; want ErrArg", n, e)
		}
	}
	if e := c.Write(0, 0, memory[10:74]); e != api.OK {
		t.Errorf("Write of 64 bytes of 200: %v", e)
	}
	if b, e := c.Read(0, 0); e != api.OK || !bytes.Equal(b, full(200, 3)[10:74]) {
		t.Errorf("Read: %v, %v", b, e)
	}
	if !bytes.Equal(memory, full(200, 3)) {
		t.Error("Write has changed its argument")
	}
	l := append(disks(t, 2, 2), nil)
	d := made(t, l[:2])
	seen(t, "behind the list", d, 2, "ARG")
	d = made(t, disks(t, slices.Repeat([]int{1}, 9)...)[:8])
	seen(t, "eight of nine", d, 7, "", "ARG")
	seen(t, "eight of nine", d, 8, "ARG")
}

// P17.1, rule 8: on a nil cache Read and Write answer ErrArg, the others nothing.
func TestNil(t *testing.T) {
	var c *Cache
	for _, p := range append(wrongPlaces, [2]int{0, 0}, [2]int{1, 1}) {
		if b, e := c.Read(p[0], p[1]); len(b) != 0 || e != api.ErrArg {
			t.Errorf("Read(%d, %d): %v, %v; want nothing, ErrArg", p[0], p[1], b, e)
		}
		for _, n := range append(wrongLengths, 64) {
			if e := c.Write(p[0], p[1], full(n, 1)); e != api.ErrArg {
				t.Errorf("Write(%d, %d, %d bytes): %v; want ErrArg", p[0], p[1], n, e)
			}
		}
	}
	c.Keep()
	c.Back()
	c.Apply()
	if g, l, n := c.Group(), c.Groups(), c.Count(); len(g) != 0 || len(l) != 0 || n != 0 {
		t.Errorf("Group %v, Groups %v, Count %d; want nothing", g, l, n)
	}
}

// P17.2: no call but Apply writes to a device, or syncs one, be it with an error or not.
func TestDevicesStay(t *testing.T) {
	l := disks(t, 3, 3, 3)
	device.Together(l)
	for _, d := range l {
		lie(t, d, "safe", "safe", "safe")
		d.Write(1, padded("not safe"))
		d.Spoil(2)
	}
	l[2].Kill()
	c := made(t, l)
	calls := map[string]func(){
		"New":          func() { made(t, l) },
		"New, refused": func() { New(append(slices.Clone(l), nil)) },
		"Read": func() {
			c.Read(0, 0)
			c.Read(1, 1)
			c.Read(0, 2)
			c.Read(2, 0)
			c.Read(3, 0)
			c.Read(0, 3)
		},
		"Write":         func() { write(t, c, w(0, 0, "x"), w(1, 1, "y"), w(1, 1, "z"), w(0, 2, "v")) },
		"Write, failed": func() { c.Write(2, 0, padded("x")); c.Write(0, 0, nil); c.Write(0, 3, padded("x")) },
		"Group":         func() { c.Group() },
		"Keep":          func() { c.Keep(); c.Keep() },
		"Back":          func() { c.Back(); c.Back() },
		"Groups":        func() { c.Groups() },
		"Count":         func() { c.Count() },
	}
	order := []string{"New", "New, refused", "Read", "Write", "Write, failed", "Group", "Read", "Keep", "Read", "Group", "Groups", "Count", "Write", "Write", "Keep", "Write", "Back", "Back", "Groups", "Count", "Write", "Read"}
	for _, what := range order {
		calls[what]()
		for i, d := range l {
			counts(t, what, d, 4, 1)
			if d.Moment() != 12 || !d.Bad(2) || d.Dead() != (i == 2) {
				t.Errorf("%s: Moment %d, Bad %v, Dead %v", what, d.Moment(), d.Bad(2), d.Dead())
			}
		}
		for _, d := range l[:2] {
			lies(t, what, d, "safe", "not safe")
			lies(t, what+", power", d.Cut(nil), "safe", "safe")
		}
	}
	if n := c.Count(); n != 6 {
		t.Errorf("Count %d; want 6", n)
	}
	// And Apply does both.
	c.Apply()
	counts(t, "Apply", l[0], 8, 0)
	counts(t, "Apply", l[1], 6, 0)
	counts(t, "Apply", l[2], 4, 1)
}

// all is what is read of all sectors of a cache's devices, with the errors.
func all(c *Cache, devices, sectors int) []string {
	var l []string
	for dev := range devices {
		for sector := range sectors {
			b, e := c.Read(dev, sector)
			l = append(l, string(b)+e.Error())
		}
	}
	return l
}

// P17.3: what is read is the same ahead of Apply and behind it: with bad sectors, dead devices, an open group, and devices that have two numbers.
func TestSeenAlike(t *testing.T) {
	for seed := range 300 {
		choose := chooser(seed)
		l := disks(t, 4, 4, 4)
		if seed%2 == 0 {
			l = append(l, l[choose(3)], l[choose(3)])
		}
		c := made(t, l)
		for _, d := range l {
			lie(t, d, "d0", "d1", "d2", "d3")
			d.Spoil(choose(6))
		}
		for range choose(30) {
			write(t, c, api.Write{Dev: choose(len(l)), Sector: choose(4), Data: full(64, choose(1000))})
			switch choose(8) {
			case 0, 1, 2:
				c.Keep()
			case 3:
				c.Back()
			case 4:
				l[choose(len(l))].Spoil(choose(4))
			case 5:
				l[choose(len(l))].Tamper(choose(4), padded("tampered"))
			}
		}
		if seed%5 == 0 {
			l[choose(len(l))].Kill()
		}
		for range 2 {
			ahead, open := all(c, len(l), 5), c.Group()
			c.Apply()
			if behind := all(c, len(l), 5); !slices.Equal(ahead, behind) {
				t.Fatalf("seed %d: read ahead of Apply: %q; behind it: %q", seed, ahead, behind)
			}
			waits(t, "Apply", c, open)
			c.Keep()
		}
	}
}

// overwrite writes over a list's bytes, and behind them into its memory.
func overwrite(b []byte) {
	b = b[:cap(b)]
	for i := range b {
		b[i] ^= 0x5a
	}
}

// P17.1, rule 4: what is handed in stays as it is, and may be changed by its owner.
func TestArgumentsAreTheirOwners(t *testing.T) {
	l := disks(t, 2, 2, 2)
	lie(t, l[0], "zero")
	lie(t, l[1], "one")
	list := slices.Clone(l)
	c := made(t, list[:2])
	if !slices.Equal(list, l) {
		t.Error("New has changed its argument")
	}
	list[0], list[1] = l[2], nil
	seen(t, "list changed", c, 0, "zero", "")
	seen(t, "list changed", c, 1, "one", "")
	b := append(make([]byte, 0, 100), padded("mine")...)
	for k := range 3 {
		if e := c.Write(0, 1, b); e != api.OK || !bytes.Equal(b, padded("mine")) {
			t.Errorf("Write: %v; its argument: %q", e, b)
		}
		overwrite(b)
		waits(t, "bytes changed", c, []api.Write{w(0, 1, "mine")}, slices.Repeat([][]api.Write{{w(0, 1, "mine")}}, k)...)
		seen(t, "bytes changed", c, 0, "zero", "mine")
		c.Keep()
		seen(t, "bytes changed, kept", c, 0, "zero", "mine")
		overwrite(b)
	}
	overwrite(b)
	c.Apply()
	lies(t, "bytes changed, applied", l[0], "zero", "mine")
	counts(t, "list changed", l[2], 0, 0)
}

// spoilAll changes all that a list of writes is made of, behind its length too.
func spoilAll(l []api.Write) {
	for i := range l {
		overwrite(l[i].Data)
	}
	l = l[:cap(l)]
	for i := range l {
		l[i] = w(1, 0, "other")
	}
}

// P17.1, rule 4: what is told is its caller's: changing it changes nothing, and no two answers share memory.
func TestAnswersAreNew(t *testing.T) {
	c, l := over(t, 3, 3)
	lie(t, l[0], "d0", "d1", "d2")
	one, two, open := []api.Write{w(0, 0, "one"), w(1, 1, "one")}, []api.Write{w(0, 0, "two")}, []api.Write{w(0, 1, "open"), w(1, 1, "open")}
	keep(t, c, one...)
	keep(t, c, two...)
	write(t, c, open...)
	for range 2 {
		for _, p := range [][2]int{{0, 0}, {0, 1}, {0, 2}, {1, 1}, {1, 2}} {
			b, _ := c.Read(p[0], p[1])
			overwrite(b)
		}
		group, again := c.Group(), c.Group()
		spoilAll(group)
		if !equal(again, open) {
			t.Errorf("two answers of Group share memory:%s", shown(again))
		}
		groups, others := c.Groups(), c.Groups()
		spoilAll(groups[0])
		if !equal(groups[1], two) {
			t.Errorf("two groups of one answer share memory:%s", shown(groups[1]))
		}
		groups[1] = nil
		if !equal(others[0], one) || !equal(others[1], two) {
			t.Error("two answers of Groups share memory")
		}
		waits(t, "answers changed", c, open, one, two)
		seen(t, "answers changed", c, 0, "two", "open", "d2")
		seen(t, "answers changed", c, 1, "", "open", "")
	}
	group, groups := c.Group(), c.Groups()
	b, _ := c.Read(0, 1)
	write(t, c, w(0, 1, "later"), w(1, 2, "later"))
	c.Keep()
	c.Apply()
	if !equal(group, open) || len(groups) != 2 || !equal(groups[0], one) || !equal(groups[1], two) || !bytes.Equal(b, padded("open")) {
		t.Error("an answer has changed behind later calls")
	}
	lies(t, "answers changed, applied", l[0], "two", "later", "d2")
	lies(t, "answers changed, applied", l[1], "", "open", "later")
	for _, d := range l {
		d.Write(2, padded("x"))
	}
	spoilAll(group)
	seen(t, "answers changed at last", c, 0, "two", "later", "x")
}

// P17.1, rule 4: the writes of a group that is told do not share memory with one another.
func TestWritesShareNothing(t *testing.T) {
	c, _ := over(t, 4)
	want := []api.Write{w(0, 0, "one"), w(0, 1, "one"), w(0, 2, "one"), w(0, 3, "one")}
	b := padded("one")
	for i := range 4 {
		if e := c.Write(0, i, b); e != api.OK {
			t.Fatalf("Write: %v", e)
		}
	}
	for _, g := range [][]api.Write{c.Group(), func() []api.Write { c.Keep(); return c.Groups()[0] }()} {
		overwrite(g[0].Data)
		overwrite(g[2].Data)
		g[0].Data, g[2].Data = padded("one"), padded("one")
		if !equal(g, want) {
			t.Errorf("two writes of one answer share memory:%s", shown(g))
		}
	}
}

// P2: caches side by side over the same devices know of each other only what lies there.
func TestSideBySide(t *testing.T) {
	l := disks(t, 2)
	c, d := made(t, l), made(t, l)
	keep(t, c, w(0, 0, "c"))
	write(t, d, w(0, 1, "d"))
	seen(t, "one", c, 0, "c", "")
	seen(t, "the other", d, 0, "", "d")
	d.Apply()
	waits(t, "one", c, nil, []api.Write{w(0, 0, "c")})
	c.Apply()
	seen(t, "one", c, 0, "c", "")
	seen(t, "the other", d, 0, "c", "d")
	d.Keep()
	d.Apply()
	seen(t, "one", c, 0, "c", "d")
	seen(t, "the other", d, 0, "c", "d")
}
