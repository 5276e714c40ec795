package cache

import (
	"bytes"
	"math"
	"slices"
	"testing"

	"cofferdam/api"
	"cofferdam/device"
)

// meant follows N1 to N3 a second time: writes stand as they came, and whatever is asked is reckoned from them anew.
type meant struct {
	disks []*device.Device
	open  []api.Write
	kept  [][]api.Write
}

// same tells whether two writes are of one sector, be its device named by one number or by two.
func (m *meant) same(v, w api.Write) bool {
	return m.disks[v.Dev] == m.disks[w.Dev] && v.Sector == w.Sector
}

// grouped are writes as a group tells them: in the place of each sector's first one its last one.
func (m *meant) grouped(l []api.Write) []api.Write {
	var out []api.Write
	for i, v := range l {
		first := !slices.ContainsFunc(l[:i], func(w api.Write) bool { return m.same(v, w) })
		if !first {
			continue
		}
		for _, w := range l {
			if m.same(v, w) {
				v = w
			}
		}
		out = append(out, v)
	}
	return out
}

// groups are those that were kept.
func (m *meant) groups() [][]api.Write {
	var out [][]api.Write
	for _, l := range m.kept {
		out = append(out, m.grouped(l))
	}
	return out
}

// refuses is why a sector can be neither read nor written; wrong: or for something else that is asked first.
func (m *meant) refuses(dev, sector int, wrong bool) api.Errno {
	if wrong || dev < 0 || dev > len(m.disks)-1 || sector < 0 || sector > m.disks[dev].Size()-1 {
		return api.ErrArg
	}
	if m.disks[dev].Dead() {
		return api.ErrDead
	}
	return api.OK
}

func (m *meant) read(dev, sector int) ([]byte, api.Errno) {
	if e := m.refuses(dev, sector, false); e != api.OK {
		return nil, e
	}
	all := append(slices.Concat(m.kept...), m.open...)
	for i := len(all) - 1; i >= 0; i-- {
		if m.same(all[i], api.Write{Dev: dev, Sector: sector}) {
			return all[i].Data, api.OK
		}
	}
	if m.disks[dev].Bad(sector) {
		return nil, api.ErrIO
	}
	b, _ := m.disks[dev].Read(sector)
	return b, api.OK
}

func (m *meant) write(dev, sector int, b []byte) api.Errno {
	e := m.refuses(dev, sector, len(b) != 64)
	if e == api.OK {
		m.open = append(m.open, api.Write{Dev: dev, Sector: sector, Data: bytes.Clone(b)})
	}
	return e
}

func (m *meant) keep() {
	if len(m.open) > 0 {
		m.kept = append(m.kept, m.open)
		m.open = nil
	}
}

func (m *meant) apply() {
	for _, l := range m.groups() {
		for _, w := range l {
			m.disks[w.Dev].Write(w.Sector, w.Data)
		}
	}
	for _, d := range m.disks {
		d.Sync()
	}
	m.kept = nil
}

// script is a cache over devices, and what is meant over others, to which the same is done.
type script struct {
	t            *testing.T
	choose       func(n int) int
	disks, twins []*device.Device // each once
	c            *Cache
	m            *meant
}

// chooser chooses numbers below n, for each seed others.
func chooser(seed int) func(n int) int {
	x := uint64(seed)*0x9e3779b97f4a7c15 + 1
	return func(n int) int {
		x = x*6364136223846793005 + 1442695040888963407
		return int(x >> 33 % uint64(n))
	}
}

// begun is a script over devices of these sizes; names are their numbers in the cache's list, in which one may stand twice.
func begun(t *testing.T, choose func(n int) int, sizes, names []int) *script {
	t.Helper()
	s := &script{t: t, choose: choose, disks: disks(t, sizes...), twins: disks(t, sizes...), m: &meant{}}
	device.Together(s.disks)
	device.Together(s.twins)
	var l []*device.Device
	for _, n := range names {
		l = append(l, s.disks[n])
		s.m.disks = append(s.m.disks, s.twins[n])
	}
	s.c = made(t, l)
	return s
}

// both does something to a device and to its twin.
func (s *script) both(n int, do func(d *device.Device)) {
	do(s.disks[n])
	do(s.twins[n])
}

// holdWrites asks that writes are told as they are meant: a device that has two numbers may be told by either.
func (s *script) holdWrites(what string, got, want []api.Write) {
	s.t.Helper()
	if len(got) != len(want) {
		s.t.Fatalf("%s: %d writes; want %d", what, len(got), len(want))
	}
	for i, w := range got {
		if w.Dev < 0 || w.Dev >= len(s.m.disks) || !s.m.same(w, want[i]) || !bytes.Equal(w.Data, want[i].Data) {
			s.t.Errorf("%s: write %d: %v; want %v", what, i, w, want[i])
		}
	}
}

// holdReads asks that all sectors are read as they are meant, and such as there are none too.
func (s *script) holdReads() {
	s.t.Helper()
	for dev := -1; dev <= len(s.m.disks); dev++ {
		size := 1
		if dev >= 0 && dev < len(s.m.disks) {
			size = s.m.disks[dev].Size()
		}
		for sector := -1; sector <= size; sector++ {
			got, e := s.c.Read(dev, sector)
			want, f := s.m.read(dev, sector)
			if e != f || !bytes.Equal(got, want) || len(got) > 0 != (e == api.OK) {
				s.t.Errorf("Read(%d, %d): %.4v, %v; want %.4v, %v", dev, sector, got, e, want, f)
			}
		}
	}
}

// holdDisks asks that the devices are as their twins, behind a loss of power too, at any moment.
func (s *script) holdDisks() {
	s.t.Helper()
	for n, d := range s.disks {
		alike(s.t, d, s.twins[n])
		moment := s.choose(d.Moment() + 2)
		var keep []bool
		for range s.choose(20) {
			keep = append(keep, s.choose(2) == 0)
		}
		alike(s.t, d.Cut(keep), s.twins[n].Cut(keep))
		alike(s.t, d.CutMoment(moment, keep), s.twins[n].CutMoment(moment, keep))
	}
}

// alike asks that two devices tell the same.
func alike(t *testing.T, d, twin *device.Device) {
	t.Helper()
	got := []int{d.Size(), d.Writes(), d.Pending(), d.Moment()}
	want := []int{twin.Size(), twin.Writes(), twin.Pending(), twin.Moment()}
	if !slices.Equal(got, want) || d.Dead() != twin.Dead() {
		t.Fatalf("Size, Writes, Pending, Moment %v, dead %v; want %v, %v", got, d.Dead(), want, twin.Dead())
	}
	for i := range d.Size() {
		b, e := d.Read(i)
		c, f := twin.Read(i)
		if e != f || !bytes.Equal(b, c) || d.Bad(i) != twin.Bad(i) {
			t.Errorf("sector %d of a device: %.4v, %v; want %.4v, %v", i, b, e, c, f)
		}
	}
}

// hold asks for all that a cache tells, and for what lies on the devices.
func (s *script) hold(what string) {
	s.t.Helper()
	s.holdWrites(what+": Group", s.c.Group(), s.m.grouped(s.m.open))
	groups, want := s.c.Groups(), s.m.groups()
	if len(groups) != len(want) {
		s.t.Fatalf("%s: %d groups; want %d", what, len(groups), len(want))
	}
	count := 0
	for i, g := range groups {
		s.holdWrites(what+": Groups", g, want[i])
		count += len(want[i])
	}
	if s.c.Count() != count {
		s.t.Errorf("%s: Count %d; want %d", what, s.c.Count(), count)
	}
	s.holdReads()
	s.holdDisks()
	if s.t.Failed() {
		s.t.Fatal(what)
	}
}

// number is one below n, or now and then one that is none.
func (s *script) number(n int) int {
	wrong := []int{-1, n, n + 1, math.MinInt, math.MaxInt}
	if s.choose(12) == 0 {
		return wrong[s.choose(len(wrong))]
	}
	return s.choose(n)
}

// write writes in the open group, a sector that was chosen; of a wrong length, now and then.
func (s *script) write() {
	s.t.Helper()
	dev := s.number(len(s.m.disks))
	size := 3
	if dev >= 0 && dev < len(s.m.disks) {
		size = s.m.disks[dev].Size()
	}
	sector, b := s.number(size), full(64, s.choose(1000))
	if s.choose(12) == 0 {
		b = full([]int{0, 1, 63, 65, 128}[s.choose(5)], 1)
	}
	if e, f := s.c.Write(dev, sector, b), s.m.write(dev, sector, b); e != f {
		s.t.Fatalf("Write(%d, %d, %d bytes): %v; want %v", dev, sector, len(b), e, f)
	}
}

// befall lets something befall a device.
func (s *script) befall() string {
	n := s.choose(len(s.disks))
	i, b := s.choose(s.disks[n].Size()), full(64, s.choose(1000))
	switch p := s.choose(20); {
	case p < 8:
		s.both(n, func(d *device.Device) { d.Spoil(i) })
		return "Spoil"
	case p < 13:
		s.both(n, func(d *device.Device) { d.Write(i, b) })
		return "a write past the cache"
	case p < 15:
		s.both(n, func(d *device.Device) { d.Sync() })
		return "a sync past the cache"
	case p < 19:
		s.both(n, func(d *device.Device) { d.Tamper(i, b) })
		return "Tamper"
	}
	s.both(n, (*device.Device).Kill)
	return "Kill"
}

// step does something that is chosen, and tells what.
func (s *script) step() string {
	s.t.Helper()
	switch p := s.choose(100); {
	case p < 55:
		s.write()
		return "Write"
	case p < 70:
		s.c.Keep()
		s.m.keep()
		return "Keep"
	case p < 76:
		s.c.Back()
		s.m.open = nil
		return "Back"
	case p < 84:
		s.c.Apply()
		s.m.apply()
		return "Apply"
	}
	return s.befall()
}

// P17.1 to P17.3: scripts that are chosen, held step by step against what is meant; some devices have two numbers.
func TestScripts(t *testing.T) {
	for seed := range 240 {
		choose := chooser(seed)
		var sizes, names []int
		for n := range 1 + choose(4) {
			sizes, names = append(sizes, 1+choose(6)), append(names, n)
		}
		for range choose(9 - len(names)) {
			if seed%3 == 0 {
				names = append(names, choose(len(sizes)))
			}
		}
		s := begun(t, choose, sizes, names)
		s.hold("New")
		for k := range 60 {
			what := s.step()
			s.hold(what)
			if t.Failed() {
				t.Fatalf("seed %d, step %d: %s", seed, k, what)
			}
		}
	}
}
