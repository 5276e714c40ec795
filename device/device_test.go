package device

import (
	"bytes"
	"math"
	"slices"
	"testing"

	"cofferdam/api"
)

// wrongSizes are numbers of sectors that no device has.
var wrongSizes = []int{0, -1, -2, -64, -api.MaxSectors, api.MaxSectors + 1, api.MaxSectors + 2, 4096, 1 << 31, 1 << 32, -1 << 31, math.MaxInt - 1, math.MaxInt, math.MinInt, math.MinInt + 1}

// wrongSectors are such as a device of so many has not.
func wrongSectors(size int) []int {
	return []int{-1, -2, -size, size, size + 1, 2*size + 1, api.MaxSectors, api.MaxSectors + 1, 1 << 31, 1 << 32, -1 << 31, -1 << 32, math.MaxInt - 1, math.MaxInt, math.MinInt, math.MinInt + 1}
}

// wrongLengths are numbers of bytes that no sector takes.
var wrongLengths = []int{65, 66, 127, 128, 4096, 1 << 16}

// made is a device that New tells.
func made(t *testing.T, sectors int) *Device {
	t.Helper()
	d, e := New(sectors)
	if d == nil || e != api.OK {
		t.Fatalf("New(%d): %v, %v", sectors, d, e)
	}
	return d
}

// padded is a sector that holds some bytes, and noughts behind them.
func padded(b []byte) []byte {
	return append(bytes.Clone(b), make([]byte, 64-len(b))...)
}

// full is so many bytes, none of them a nought; another seed makes others.
func full(n, seed int) []byte {
	b := make([]byte, n)
	for i := range b {
		b[i] = byte((i*7+seed*31)%255 + 1)
	}
	return b
}

// written writes a sector that can be written.
func written(t *testing.T, d *Device, i int, text string) {
	t.Helper()
	if e := d.Write(i, []byte(text)); e != api.OK {
		t.Fatalf("Write(%d, %q): %v", i, text, e)
	}
}

// safe syncs a device that can be synced.
func safe(t *testing.T, d *Device) {
	t.Helper()
	if e := d.Sync(); e != api.OK {
		t.Fatalf("Sync: %v", e)
	}
}

// holds asks that the sectors of a device, from 0 on, hold these texts, and noughts behind each.
func holds(t *testing.T, what string, d *Device, texts ...string) {
	t.Helper()
	if d == nil {
		t.Fatalf("%s: no device", what)
	}
	if d.Size() != len(texts) {
		t.Errorf("%s: Size %d; want %d", what, d.Size(), len(texts))
	}
	for i, text := range texts {
		if b, e := d.Read(i); e != api.OK || !bytes.Equal(b, padded([]byte(text))) {
			t.Errorf("%s: Read(%d): %q, %v; want %q", what, i, b, e, text)
		}
	}
}

// heldTexts is what the sectors of a device hold, as texts.
func heldTexts(t *testing.T, d *Device) []string {
	t.Helper()
	var l []string
	for i := range d.Size() {
		b, e := d.Read(i)
		if e != api.OK {
			t.Fatalf("Read(%d): %v", i, e)
		}
		l = append(l, string(b))
	}
	return l
}

// counts asks for a device's numbers.
func counts(t *testing.T, what string, d *Device, writes, pending, moment int) {
	t.Helper()
	if d.Writes() != writes || d.Pending() != pending || d.Moment() != moment {
		t.Errorf("%s: Writes %d, Pending %d, Moment %d; want %d, %d, %d", what, d.Writes(), d.Pending(), d.Moment(), writes, pending, moment)
	}
}

// numbers are some to ask of CutAt and CutMoment, where the last one is this.
func numbers(last int) []int {
	l := []int{math.MinInt, math.MinInt + 1, -1 << 31, -2, -1}
	for n := range last + 1 {
		l = append(l, n)
	}
	return append(l, last+1, last+2, 1<<31, math.MaxInt-1, math.MaxInt)
}

// someKeeps are such as differ where so many writes are not safe: all of them, if there are few.
func someKeeps(pending int) [][]bool {
	all := slices.Repeat([]bool{true}, pending+3)
	keeps := [][]bool{nil, {}, {false}, {true}, {false, true}, all, all[:pending], all[:max(pending-1, 0)], slices.Repeat([]bool{true, false, false}, pending+1), slices.Repeat([]bool{false, true}, pending+1)}
	if pending <= 3 {
		for bits := range 1 << pending {
			var keep []bool
			for k := range pending {
				keep = append(keep, bits>>k&1 == 1)
			}
			keeps = append(keeps, keep)
		}
	}
	return keeps
}

// image is what a device holds, told as a whole.
type image struct {
	sectors [][]byte
	bad     []bool
	dead    bool
}

// clone is an image of its own.
func (m image) clone() image {
	c := image{nil, slices.Clone(m.bad), m.dead}
	for _, b := range m.sectors {
		c.sectors = append(c.sectors, bytes.Clone(b))
	}
	return c
}

// noughts is the image of a device that is new.
func noughts(size int) image {
	m := image{bad: make([]bool, size)}
	for range size {
		m.sectors = append(m.sectors, make([]byte, 64))
	}
	return m
}

// hold holds a device against an image.
func (m image) hold(t *testing.T, d *Device) {
	t.Helper()
	if d == nil {
		t.Fatal("no device")
	}
	if d.Size() != len(m.sectors) || d.Dead() != m.dead {
		t.Errorf("Size %d, Dead %v; want %d, %v", d.Size(), d.Dead(), len(m.sectors), m.dead)
	}
	for i, want := range m.sectors {
		if d.Bad(i) != m.bad[i] {
			t.Errorf("Bad(%d): %v; want %v", i, d.Bad(i), m.bad[i])
		}
		b, e := d.Read(i)
		switch {
		case m.dead:
			if e != api.ErrDevDead || len(b) != 0 {
				t.Errorf("Read(%d): %x, %v; want ErrDevDead", i, b, e)
			}
		case m.bad[i]:
			if e != api.ErrDevBad || len(b) != 0 {
				t.Errorf("Read(%d): %x, %v; want ErrDevBad", i, b, e)
			}
		case e != api.OK || !bytes.Equal(b, want):
			t.Errorf("Read(%d): %x, %v; want %x", i, b, e, want)
		}
	}
}

// event is something that the promises look back on.
type event struct {
	what string // "write", "tamper", "sync", "together"
	dev  int    // of all but together
	at   int
	data []byte
	devs []int // of together
}

// script is devices, and all that was done on them in one order, from which the chapter's words say what each of them tells.
type script struct {
	t      *testing.T
	devs   []*Device
	first  []image // as each was ahead of all events
	bad    [][]bool
	dead   []bool
	events []event
}

// add takes one more device.
func (s *script) add(d *Device, m image) int {
	s.devs, s.first = append(s.devs, d), append(s.first, m)
	s.bad, s.dead = append(s.bad, slices.Clone(m.bad)), append(s.dead, m.dead)
	return len(s.devs) - 1
}

// isWrite tells whether an event is a write of a device.
func (s *script) isWrite(k, dev int) bool {
	e := s.events[k]
	return e.dev == dev && (e.what == "write" || e.what == "tamper")
}

// writesOf are the events that are writes of a device.
func (s *script) writesOf(dev int) []int {
	var l []int
	for k := range s.events {
		if s.isWrite(k, dev) {
			l = append(l, k)
		}
	}
	return l
}

// behindWrite is how many events there were when a device's n-th write was done.
func (s *script) behindWrite(dev, n int) int {
	if n == 0 {
		return 0
	}
	return s.writesOf(dev)[n-1] + 1
}

// joined is the last Together of a device ahead of an event; -1, if there is none.
func (s *script) joined(dev, ahead int) int {
	for k := ahead - 1; k >= 0; k-- {
		if s.events[k].what == "together" && slices.Contains(s.events[k].devs, dev) {
			return k
		}
	}
	return -1
}

// moments are the events that a device counts: its own writes, and those of all who joined with it.
func (s *script) moments(dev int) []int {
	var l []int
	since := s.joined(dev, len(s.events))
	for k := since + 1; k < len(s.events); k++ {
		own := s.isWrite(k, dev)
		others := since >= 0 && s.isWrite(k, s.events[k].dev) && s.joined(s.events[k].dev, k) == since
		if own || others {
			l = append(l, k)
		}
	}
	return l
}

// behindMoment is how many events there were when a device's moment m had come; with 0, when the count began.
func (s *script) behindMoment(dev, m int) int {
	if m == 0 {
		return s.joined(dev, len(s.events)) + 1
	}
	return s.moments(dev)[m-1] + 1
}

// isSafe tells whether a write is safe when there were so many events.
func (s *script) isSafe(k, events int) bool {
	if s.events[k].what == "tamper" {
		return true
	}
	for _, e := range s.events[k:events] {
		if e.what == "sync" && e.dev == s.events[k].dev {
			return true
		}
	}
	return false
}

// pendingAt are a device's writes that were not safe when there were so many events.
func (s *script) pendingAt(dev, events int) []int {
	var l []int
	for k := range events {
		if s.isWrite(k, dev) && !s.isSafe(k, events) {
			l = append(l, k)
		}
	}
	return l
}

// left is what a loss of power leaves of a device when there were so many events.
func (s *script) left(dev, events int, keep []bool) image {
	lost := map[int]int{}
	for number, k := range s.pendingAt(dev, events) {
		if number >= len(keep) || !keep[number] {
			lost[k] = 1
		}
	}
	m := s.first[dev].clone()
	for k, e := range s.events[:events] {
		if s.isWrite(k, dev) && lost[k] == 0 {
			m.sectors[e.at] = padded(e.data)
		}
	}
	m.bad, m.dead = slices.Clone(s.bad[dev]), s.dead[dev]
	return m
}

// now is what a device holds.
func (s *script) now(dev int) image {
	return s.left(dev, len(s.events), slices.Repeat([]bool{true}, len(s.events)))
}

// hold holds all that the devices tell against what is meant.
func (s *script) hold() {
	s.t.Helper()
	for dev, d := range s.devs {
		s.now(dev).hold(s.t, d)
		counts(s.t, "a script", d, len(s.writesOf(dev)), len(s.pendingAt(dev, len(s.events))), len(s.moments(dev)))
		for _, i := range wrongSectors(d.Size()) {
			if d.Bad(i) {
				s.t.Errorf("Bad(%d) of %d sectors", i, d.Size())
			}
		}
	}
	s.stop()
}

// stop ends a script behind the first step that went wrong, and tells its events.
func (s *script) stop() {
	s.t.Helper()
	if !s.t.Failed() {
		return
	}
	for _, e := range s.events {
		s.t.Logf("%s of device %d, sector %d: %x; %v", e.what, e.dev, e.at, e.data, e.devs)
	}
	s.t.FailNow()
}

// holdLeft holds a device that was cut: what it holds, that it counts from 0 on, and that it stays as it is when power goes again (P7.3).
func (s *script) holdLeft(c *Device, m image) {
	s.t.Helper()
	m.hold(s.t, c)
	counts(s.t, "a device that was cut", c, 0, 0, 0)
	for _, again := range []*Device{c.Cut(nil), c.Cut([]bool{true, true}), c.CutAt(0, nil), c.CutAt(5, []bool{true}), c.CutMoment(0, nil), c.CutMoment(5, []bool{true})} {
		m.hold(s.t, again)
	}
	s.stop()
}

// holdCuts cuts each device by all three calls, behind every write and every moment.
func (s *script) holdCuts() {
	s.t.Helper()
	for dev, d := range s.devs {
		all := len(s.events)
		for _, keep := range someKeeps(len(s.pendingAt(dev, all))) {
			s.holdLeft(d.Cut(keep), s.left(dev, all, keep))
		}
		for _, n := range numbers(d.Writes()) {
			at := s.behindWrite(dev, min(max(n, 0), d.Writes()))
			for _, keep := range someKeeps(len(s.pendingAt(dev, at))) {
				s.holdLeft(d.CutAt(n, keep), s.left(dev, at, keep))
			}
		}
		for _, m := range numbers(d.Moment()) {
			at := s.behindMoment(dev, min(max(m, 0), d.Moment()))
			for _, keep := range someKeeps(len(s.pendingAt(dev, at))) {
				s.holdLeft(d.CutMoment(m, keep), s.left(dev, at, keep))
			}
		}
	}
	s.hold()
}

// write writes, or tampers with, a sector of a device; it is no event, if it is refused.
func (s *script) write(what string, dev, at int, data []byte) {
	s.t.Helper()
	d, want := s.devs[dev], api.OK
	switch {
	case s.dead[dev]:
		want = api.ErrDevDead
	case at < 0 || at >= d.Size():
		want = api.ErrDevRange
	case len(data) > 64:
		want = api.ErrArg
	}
	if what == "tamper" {
		d.Tamper(at, data)
	} else if e := d.Write(at, data); e != want {
		s.t.Errorf("Write(%d, %d bytes): %v; want %v", at, len(data), e, want)
	}
	if want == api.OK {
		s.events = append(s.events, event{what: what, dev: dev, at: at, data: bytes.Clone(data)})
		s.bad[dev][at] = s.bad[dev][at] && what == "tamper"
	}
}

// sync syncs a device.
func (s *script) sync(dev int) {
	s.t.Helper()
	e := s.devs[dev].Sync()
	if s.dead[dev] != (e == api.ErrDevDead) || !s.dead[dev] && e != api.OK {
		s.t.Errorf("Sync: %v", e)
	}
	if !s.dead[dev] {
		s.events = append(s.events, event{what: "sync", dev: dev})
	}
}

// spoil spoils a sector of a device.
func (s *script) spoil(dev, at int) {
	s.devs[dev].Spoil(at)
	if !s.dead[dev] && at >= 0 && at < len(s.bad[dev]) {
		s.bad[dev][at] = true
	}
}

// kill kills a device.
func (s *script) kill(dev int) {
	s.devs[dev].Kill()
	s.dead[dev] = true
}

// together lets some devices count together.
func (s *script) together(devs ...int) {
	var l []*Device
	for _, dev := range devs {
		l = append(l, s.devs[dev])
	}
	Together(l)
	s.events = append(s.events, event{what: "together", dev: -1, devs: devs})
}

// cut puts what a loss of power leaves of a device in its place.
func (s *script) cut(dev int, keep []bool) {
	m := s.left(dev, len(s.events), keep)
	c := s.devs[dev].Cut(keep)
	s.holdLeft(c, m)
	s.add(c, m)
}

// begun is a script with devices of so many sectors.
func begun(t *testing.T, sizes ...int) *script {
	t.Helper()
	s := &script{t: t}
	for _, size := range sizes {
		s.add(made(t, size), noughts(size))
	}
	return s
}

// chooser chooses numbers below n, the same ones each time.
func chooser(seed int) func(n int) int {
	x := uint64(seed)*2654435761 + 12345
	return func(n int) int {
		x = x*6364136223846793005 + 1442695040888963407
		return int(x>>33) % n
	}
}

// step does something on some device of a script, often what is refused.
func (s *script) step(choose func(int) int) {
	dev := choose(len(s.devs))
	size := s.devs[dev].Size()
	at := choose(size)
	if choose(12) == 0 {
		at = []int{-1, size, math.MinInt, math.MaxInt}[choose(4)]
	}
	data := full([]int{0, 1, 2, 5, 63, 64, 64, 65}[choose(8)], choose(1000))
	switch p := choose(100); {
	case p < 45:
		s.write("write", dev, at, data)
	case p < 60:
		s.write("tamper", dev, at, data)
	case p < 76:
		s.sync(dev)
	case p < 85:
		s.spoil(dev, at)
	case p < 86:
		s.kill(dev)
	case p < 91:
		s.together(dev, choose(len(s.devs)), choose(len(s.devs)))
	case p < 95 && len(s.devs) < 5:
		s.cut(dev, []bool{choose(2) == 0, choose(2) == 0, choose(2) == 0})
	default:
		s.devs[dev].CutAt(choose(9), []bool{true}).Write(0, []byte("elsewhere"))
	}
}

// P7.1 (D1): a device that is new, of each size.
func TestNew(t *testing.T) {
	for _, size := range []int{1, 2, 3, 63, 64, 65, 1000, 2047, api.MaxSectors} {
		d := made(t, size)
		noughts(size).hold(t, d)
		counts(t, "a new device", d, 0, 0, 0)
		noughts(size).hold(t, d.Cut(nil))
	}
	if api.MaxSectors != 2048 || api.SectorSize != 64 {
		t.Errorf("MaxSectors %d, SectorSize %d", api.MaxSectors, api.SectorSize)
	}
}

// P7.1 (D1): no device has so many sectors.
func TestNewWrong(t *testing.T) {
	for _, size := range wrongSizes {
		if d, e := New(size); d != nil || e != api.ErrArg {
			t.Errorf("New(%d): %v, %v; want ErrArg", size, d, e)
		}
	}
}

// P7.1 (D1 to D3), P7.3, D4: scripts that are chosen, of one device to three, held step by step.
func TestScripts(t *testing.T) {
	for seed := range 240 {
		choose := chooser(seed)
		s := begun(t, [][]int{{1}, {3}, {2, 2}, {4, 1}, {2, 3, 1}}[seed%5]...)
		if seed%2 == 0 && len(s.devs) > 1 {
			s.write("write", 0, 0, full(9, seed))
			s.together([]int{0, 1, 2}[:len(s.devs)]...)
		}
		for range 24 {
			s.step(choose)
			s.hold()
		}
		s.holdCuts()
	}
}

// P7.1 (D1 to D3), D4: one device, cut behind each step of a script in every way.
func TestCutsBehindEachStep(t *testing.T) {
	s := begun(t, 3)
	for _, step := range []func(){
		func() { s.sync(0) },
		func() { s.write("write", 0, 0, full(64, 1)) },
		func() { s.write("write", 0, 1, full(64, 2)) },
		func() { s.sync(0) },
		func() { s.sync(0) },
		func() { s.write("write", 0, 0, full(63, 3)) },
		func() { s.write("tamper", 0, 0, full(5, 4)) },
		func() { s.write("write", 0, 0, full(1, 5)) },
		func() { s.spoil(0, 2) },
		func() { s.write("tamper", 0, 2, full(7, 6)) },
		func() { s.write("write", 0, 2, nil) },
		func() { s.sync(0) },
		func() { s.write("write", 0, 1, full(64, 7)) },
		func() { s.spoil(0, 1) },
		func() { s.kill(0) },
		func() { s.sync(0) },
	} {
		step()
		s.holdCuts()
	}
}

// P7.1 (D1): bytes of each length that a sector takes, behind others that were longer: noughts stand behind them.
func TestLengths(t *testing.T) {
	for _, put := range []func(d *Device, i int, b []byte){
		func(d *Device, i int, b []byte) { d.Write(i, b) },
		(*Device).Tamper,
	} {
		d := made(t, 3)
		for n := 64; n >= 0; n-- {
			put(d, 1, full(64, 1))
			if b, e := d.Read(1); e != api.OK || !bytes.Equal(b, full(64, 1)) {
				t.Fatalf("64 bytes: %x, %v", b, e)
			}
			put(d, 1, full(n, 2))
			if b, e := d.Read(1); e != api.OK || !bytes.Equal(b, padded(full(n, 2))) {
				t.Errorf("%d bytes behind 64: %x, %v", n, b, e)
			}
		}
		for _, n := range []int{0, 1, 63, 64} {
			put(d, 2, full(n, 3))
			if b, e := d.Read(2); e != api.OK || !bytes.Equal(b, padded(full(n, 3))) {
				t.Errorf("%d bytes: %x, %v", n, b, e)
			}
		}
		put(d, 1, nil)
		if b, e := d.Read(1); e != api.OK || !bytes.Equal(b, make([]byte, 64)) {
			t.Errorf("nil: %x, %v", b, e)
		}
		if b, e := d.Read(0); e != api.OK || !bytes.Equal(b, make([]byte, 64)) {
			t.Errorf("the sector ahead: %x, %v", b, e)
		}
	}
}

// P7.1 (D1, D2): the first and the last sector of the least device and of the greatest: no other one changes.
func TestFirstAndLast(t *testing.T) {
	for _, size := range []int{1, 2, api.MaxSectors} {
		for _, at := range []int{0, size - 1} {
			d, m := made(t, size), noughts(size)
			written(t, d, at, "first")
			m.sectors[at] = padded([]byte("first"))
			m.hold(t, d)
			safe(t, d)
			m.hold(t, d.Cut(nil))
			d.Tamper(at, []byte("other"))
			m.sectors[at] = padded([]byte("other"))
			m.hold(t, d)
			d.Spoil(at)
			m.bad[at] = true
			m.hold(t, d)
			m.hold(t, d.Cut(nil))
		}
	}
}

// P7.1 (D1): every sector of the greatest device is one of its own, and a loss of power keeps those that are to be kept.
func TestGreatest(t *testing.T) {
	d, m := made(t, api.MaxSectors), noughts(api.MaxSectors)
	left, keep := noughts(api.MaxSectors), make([]bool, api.MaxSectors)
	for i := range api.MaxSectors {
		b := []byte{byte(i >> 8), byte(i), 1}
		if e := d.Write(i, b); e != api.OK {
			t.Fatalf("Write(%d): %v", i, e)
		}
		m.sectors[i] = padded(b)
		if i%3 == 0 {
			keep[i], left.sectors[i] = true, padded(b)
		}
	}
	m.hold(t, d)
	counts(t, "all sectors written", d, api.MaxSectors, api.MaxSectors, api.MaxSectors)
	left.hold(t, d.Cut(keep))
	left.hold(t, d.CutAt(math.MaxInt, keep))
	left.hold(t, d.CutMoment(math.MaxInt, keep))
	noughts(api.MaxSectors).hold(t, d.Cut(nil))
	safe(t, d)
	m.hold(t, d.Cut(nil))
}

// P7.1 (D1): many writes of one sector: each is counted, the last one is read, and each one is left where power went behind it.
func TestManyWrites(t *testing.T) {
	d := made(t, 1)
	for n := 1; n <= 5000; n++ {
		if e := d.Write(0, []byte{byte(n >> 8), byte(n)}); e != api.OK {
			t.Fatal(e)
		}
		if n%7 == 0 {
			safe(t, d)
		}
	}
	counts(t, "5000 writes", d, 5000, 5000%7, 5000)
	for n := 0; n <= 5000; n += 13 {
		// A Sync behind the n-th write itself has not come.
		kept := max(n-1, 0) / 7 * 7
		for _, c := range []*Device{d.CutAt(n, nil), d.CutMoment(n, nil)} {
			if b, e := c.Read(0); e != api.OK || !bytes.Equal(b, padded([]byte{byte(kept >> 8), byte(kept)})) {
				t.Fatalf("behind write %d: %x, %v; want write %d", n, b, e, kept)
			}
		}
	}
}

// everything is a device with writes, syncs, a bad sector and one that was tampered with.
func everything(t *testing.T) *script {
	s := begun(t, 4, 2)
	s.write("write", 0, 0, []byte("ahead"))
	s.together(0, 1)
	s.write("write", 0, 1, []byte("safe"))
	s.sync(0)
	s.write("write", 1, 0, []byte("beside"))
	s.write("write", 0, 1, []byte("pending"))
	s.write("tamper", 0, 2, []byte("tampered"))
	s.spoil(0, 3)
	s.hold()
	return s
}

// P7.1 (D1, D2), P1: sectors that there are not: each call says so, or does nothing, and nothing has changed.
func TestNoSuchSector(t *testing.T) {
	for _, dead := range []bool{false, true} {
		s := everything(t)
		want := api.ErrDevRange
		if dead {
			s.kill(0)
			want = api.ErrDevDead
		}
		d := s.devs[0]
		for _, i := range wrongSectors(4) {
			if b, e := d.Read(i); len(b) != 0 || e != want {
				t.Errorf("Read(%d): %x, %v; want %v", i, b, e, want)
			}
			for _, n := range append([]int{0, 1, 64}, wrongLengths...) {
				if e := d.Write(i, full(n, 1)); e != want {
					t.Errorf("Write(%d, %d bytes): %v; want %v", i, n, e, want)
				}
				d.Tamper(i, full(n, 1))
			}
			d.Spoil(i)
			if d.Bad(i) {
				t.Errorf("Bad(%d)", i)
			}
		}
		s.holdCuts()
	}
}

// P7.1 (D1, D2): too many bytes, for sectors that are bad and that are not: nothing has changed, a bad one is still bad.
func TestTooManyBytes(t *testing.T) {
	s := everything(t)
	for i := range 4 {
		for _, n := range wrongLengths {
			if e := s.devs[0].Write(i, full(n, 1)); e != api.ErrArg {
				t.Errorf("Write(%d, %d bytes): %v; want ErrArg", i, n, e)
			}
			s.devs[0].Tamper(i, full(n, 1))
		}
	}
	s.holdCuts()
}

// P7.1 (D1): where several errors apply, the first one that is named is told: dead, no such sector, bad or too many bytes.
func TestOrderOfErrors(t *testing.T) {
	for _, c := range []struct {
		dead        bool
		at, bytes   int
		read, write api.Errno
	}{
		{false, 0, 64, api.OK, api.OK},
		{false, 0, 65, api.OK, api.ErrArg},
		{false, 1, 64, api.ErrDevBad, api.OK},
		{false, 1, 65, api.ErrDevBad, api.ErrArg},
		{false, 2, 64, api.ErrDevRange, api.ErrDevRange},
		{false, 2, 65, api.ErrDevRange, api.ErrDevRange},
		{false, -1, 65, api.ErrDevRange, api.ErrDevRange},
		{true, 0, 64, api.ErrDevDead, api.ErrDevDead},
		{true, 0, 65, api.ErrDevDead, api.ErrDevDead},
		{true, 1, 64, api.ErrDevDead, api.ErrDevDead},
		{true, 1, 65, api.ErrDevDead, api.ErrDevDead},
		{true, 2, 64, api.ErrDevDead, api.ErrDevDead},
		{true, 2, 65, api.ErrDevDead, api.ErrDevDead},
		{true, -1, 65, api.ErrDevDead, api.ErrDevDead},
	} {
		d := made(t, 2)
		d.Spoil(1)
		if c.dead {
			d.Kill()
		}
		if b, e := d.Read(c.at); e != c.read || (e == api.OK) != (len(b) == 64) {
			t.Errorf("dead %v: Read(%d): %x, %v; want %v", c.dead, c.at, b, e, c.read)
		}
		if e := d.Write(c.at, full(c.bytes, 1)); e != c.write {
			t.Errorf("dead %v: Write(%d, %d bytes): %v; want %v", c.dead, c.at, c.bytes, e, c.write)
		}
	}
}

// P7.1 (D1, D2, D3), D4: a device that is dead: nothing changes on it any more; what it tells without an error, it tells as ahead of its death.
func TestDead(t *testing.T) {
	s := everything(t)
	d := s.devs[0]
	s.kill(0)
	for i := range 4 {
		if b, e := d.Read(i); len(b) != 0 || e != api.ErrDevDead {
			t.Errorf("Read(%d): %x, %v", i, b, e)
		}
		if e := d.Write(i, []byte("x")); e != api.ErrDevDead {
			t.Errorf("Write(%d): %v", i, e)
		}
		d.Tamper(i, []byte("y"))
		d.Spoil(i)
		if d.Bad(i) != (i == 3) {
			t.Errorf("Bad(%d): %v", i, d.Bad(i))
		}
	}
	if e := d.Sync(); e != api.ErrDevDead {
		t.Errorf("Sync: %v", e)
	}
	d.Kill()
	if d.Size() != 4 || !d.Dead() {
		t.Errorf("Size %d, Dead %v", d.Size(), d.Dead())
	}
	counts(t, "a dead one", d, 4, 1, 4)
	s.holdCuts()
	s.write("write", 1, 1, []byte("the other one goes on"))
	counts(t, "a dead one, with the other one written", d, 4, 1, 5)
	s.together(0, 1)
	counts(t, "a dead one that counts anew", d, 4, 1, 0)
	s.holdCuts()
	for _, c := range []*Device{d.Cut(nil), d.CutAt(1, nil), d.CutMoment(0, nil)} {
		if e := c.Write(0, nil); !c.Dead() || c.Size() != 4 || !c.Bad(3) || c.Bad(0) || e != api.ErrDevDead {
			t.Errorf("a dead one that was cut: Dead %v, Size %d, Bad(3) %v, Bad(0) %v, Write %v", c.Dead(), c.Size(), c.Bad(3), c.Bad(0), e)
		}
	}
}

// P7.1, P1 (rule 8): a nil device.
func TestNil(t *testing.T) {
	var d *Device
	for _, i := range []int{0, 1, -1, math.MinInt, math.MaxInt} {
		if b, e := d.Read(i); len(b) != 0 || e != api.ErrArg {
			t.Errorf("Read(%d): %x, %v", i, b, e)
		}
		for _, n := range []int{0, 64, 65} {
			if e := d.Write(i, full(n, 1)); e != api.ErrArg {
				t.Errorf("Write(%d): %v", i, e)
			}
			d.Tamper(i, full(n, 1))
		}
		d.Spoil(i)
		if d.Bad(i) {
			t.Errorf("Bad(%d)", i)
		}
		if d.CutAt(i, nil) != nil || d.CutAt(i, []bool{true}) != nil || d.CutMoment(i, nil) != nil || d.CutMoment(i, []bool{true}) != nil {
			t.Errorf("cut at %d: a device", i)
		}
	}
	d.Kill()
	if e := d.Sync(); e != api.ErrArg {
		t.Errorf("Sync: %v", e)
	}
	if d.Cut(nil) != nil || d.Cut([]bool{true}) != nil {
		t.Error("Cut: a device")
	}
	if d.Size() != 0 || d.Dead() {
		t.Errorf("Size %d, Dead %v", d.Size(), d.Dead())
	}
	counts(t, "nil", d, 0, 0, 0)
}

// P7.1 (D1, D2, D3): a bad sector is not read, stays bad when it is tampered with and when power goes, and heals when it is written.
func TestBad(t *testing.T) {
	d := made(t, 3)
	written(t, d, 1, "old")
	safe(t, d)
	d.Spoil(1)
	d.Spoil(1)
	for _, x := range []*Device{d, d.Cut(nil), d.CutAt(0, nil), d.CutAt(1, nil), d.CutMoment(0, nil), d.CutMoment(1, nil), d.Cut(nil).Cut(nil)} {
		if b, e := x.Read(1); len(b) != 0 || e != api.ErrDevBad || !x.Bad(1) || x.Bad(0) || x.Bad(2) {
			t.Errorf("a bad one: %x, %v, Bad %v", b, e, x.Bad(1))
		}
	}
	counts(t, "spoilt", d, 1, 0, 1)
	d.Tamper(1, []byte("tampered"))
	if b, e := d.Read(1); len(b) != 0 || e != api.ErrDevBad || !d.Bad(1) {
		t.Errorf("tampered with: %x, %v", b, e)
	}
	if c := d.Cut(nil); !c.Bad(1) {
		t.Error("tampered with, and cut: not bad")
	}
	written(t, d, 1, "new")
	if d.Bad(1) {
		t.Error("written: bad")
	}
	holds(t, "written", d, "", "new", "")
	// What was bad heals for good: the write itself may be lost, and then what was there ahead of it is read.
	holds(t, "healed, and cut", d.Cut(nil), "", "tampered", "")
	holds(t, "healed, and cut behind the first write", d.CutAt(1, []bool{true}), "", "old", "")
	holds(t, "healed, and cut ahead of all", d.CutAt(0, nil), "", "", "")
	d.Spoil(1)
	if c := d.CutAt(0, nil); !c.Bad(1) {
		t.Error("bad again, and cut ahead of all: not bad")
	}
	c := d.Cut([]bool{true})
	written(t, c, 1, "healed")
	if c.Bad(1) || !d.Bad(1) {
		t.Errorf("a cut one that heals: Bad %v, and the other one's %v", c.Bad(1), d.Bad(1))
	}
	c.Spoil(0)
	if !c.Bad(0) || d.Bad(0) {
		t.Errorf("a cut one that is spoilt: Bad %v, and the other one's %v", c.Bad(0), d.Bad(0))
	}
}

// P7.1 (D2, D3), P7.2: a tampered sector among writes that are not safe takes no number of keep's, and is there behind any loss of power.
func TestTampered(t *testing.T) {
	d := made(t, 3)
	written(t, d, 0, "a")
	d.Tamper(1, []byte("T"))
	written(t, d, 1, "b")
	written(t, d, 2, "c")
	counts(t, "a write of Tamper among three", d, 4, 3, 4)
	for _, cut := range []func(keep []bool) *Device{
		d.Cut,
		func(keep []bool) *Device { return d.CutAt(4, keep) },
		func(keep []bool) *Device { return d.CutMoment(4, keep) },
	} {
		holds(t, "keep nil", cut(nil), "", "T", "")
		holds(t, "keep 1", cut([]bool{true}), "a", "T", "")
		holds(t, "keep 01", cut([]bool{false, true}), "", "b", "")
		holds(t, "keep 001", cut([]bool{false, false, true}), "", "T", "c")
		holds(t, "keep 0001", cut([]bool{false, false, false, true}), "", "T", "")
		holds(t, "keep 101", cut([]bool{true, false, true}), "a", "T", "c")
		holds(t, "keep 111", cut([]bool{true, true, true}), "a", "b", "c")
	}
	for _, cut := range []func(n int, keep []bool) *Device{d.CutAt, d.CutMoment} {
		holds(t, "ahead of Tamper", cut(1, []bool{true, true}), "a", "", "")
		holds(t, "behind Tamper", cut(2, nil), "", "T", "")
		holds(t, "behind Tamper, keep 11", cut(2, []bool{true, true}), "a", "T", "")
		holds(t, "behind the next one", cut(3, []bool{false, true, true}), "", "b", "")
	}
}

// P7.2: a write that is not safe, ahead of one of Tamper at the same sector: kept or not, the sector is as Tamper left it.
func TestTamperedOver(t *testing.T) {
	d := made(t, 1)
	written(t, d, 0, "a")
	d.Tamper(0, []byte("T"))
	for _, keep := range someKeeps(1) {
		holds(t, "Cut", d.Cut(keep), "T")
		holds(t, "CutAt", d.CutAt(2, keep), "T")
		holds(t, "CutMoment", d.CutMoment(2, keep), "T")
	}
	safe(t, d)
	d.Tamper(0, []byte("U"))
	counts(t, "a write of Tamper behind a Sync", d, 3, 0, 3)
	holds(t, "behind it", d.Cut(nil), "U")
	holds(t, "ahead of it", d.CutAt(2, []bool{true}), "T")
	holds(t, "at it", d.CutAt(3, nil), "U")
}

// P7.1 (D3): the numbers of keep go over the writes that are not safe, in order; none is kept beyond its end.
func TestKeep(t *testing.T) {
	d := made(t, 3)
	written(t, d, 0, "a")
	safe(t, d)
	written(t, d, 0, "b")
	written(t, d, 1, "c")
	written(t, d, 0, "d")
	for _, c := range []struct {
		keep          []bool
		first, second string
	}{
		{nil, "a", ""},
		{[]bool{}, "a", ""},
		{[]bool{true}, "b", ""},
		{[]bool{false}, "a", ""},
		{[]bool{false, true}, "a", "c"},
		{[]bool{true, true}, "b", "c"},
		{[]bool{true, false, true}, "d", ""},
		{[]bool{false, false, true}, "d", ""},
		{[]bool{true, true, false}, "b", "c"},
		{[]bool{true, true, true}, "d", "c"},
		{[]bool{false, false, false, true, true}, "a", ""},
		{[]bool{true, true, true, false, false, true}, "d", "c"},
	} {
		holds(t, "Cut", d.Cut(c.keep), c.first, c.second, "")
		holds(t, "CutAt", d.CutAt(4, c.keep), c.first, c.second, "")
		holds(t, "CutMoment", d.CutMoment(4, c.keep), c.first, c.second, "")
	}
	// What keep says of writes behind the cut is not asked.
	holds(t, "behind the second", d.CutAt(2, []bool{true, true, true}), "b", "", "")
	holds(t, "behind the third", d.CutAt(3, []bool{false, true, true}), "a", "c", "")
	holds(t, "behind the second moment", d.CutMoment(2, []bool{true, true, true}), "b", "", "")
}

// P7.1 (D3), D4: a Sync that came right behind a write has come for the next write, and not for its own.
func TestBetweenWriteAndSync(t *testing.T) {
	d := made(t, 2)
	written(t, d, 0, "a")
	safe(t, d)
	for _, cut := range []func(n int, keep []bool) *Device{d.CutAt, d.CutMoment} {
		// Nothing is behind the first write: yet its Sync has not come.
		holds(t, "between", cut(1, nil), "", "")
		holds(t, "between, kept", cut(1, []bool{true}), "a", "")
		holds(t, "above the last one", cut(2, nil), "", "")
	}
	holds(t, "behind both", d.Cut(nil), "a", "")
	written(t, d, 1, "b")
	for _, cut := range []func(n int, keep []bool) *Device{d.CutAt, d.CutMoment} {
		holds(t, "still between", cut(1, nil), "", "")
		holds(t, "still between, kept", cut(1, []bool{true}), "a", "")
		holds(t, "behind the second", cut(2, nil), "a", "")
		holds(t, "behind the second, kept", cut(2, []bool{true}), "a", "b")
	}
	safe(t, d)
	for _, cut := range []func(n int, keep []bool) *Device{d.CutAt, d.CutMoment} {
		holds(t, "between the second and its Sync", cut(2, nil), "a", "")
		holds(t, "below 0", cut(-1, []bool{true, true}), "", "")
		holds(t, "at 0", cut(0, []bool{true, true}), "", "")
		holds(t, "the least", cut(math.MinInt, []bool{true, true}), "", "")
		holds(t, "the greatest", cut(math.MaxInt, nil), "a", "")
	}
	holds(t, "behind all", d.Cut(nil), "a", "b")
}

// P7.1 (D1, D3): a Sync with nothing ahead of it, two in a row, one as the last thing: each is OK, counts nothing, and makes safe what is ahead of it.
func TestSync(t *testing.T) {
	d := made(t, 2)
	safe(t, d)
	safe(t, d)
	counts(t, "nothing was written", d, 0, 0, 0)
	written(t, d, 0, "a")
	counts(t, "one write", d, 1, 1, 1)
	holds(t, "a Sync ahead of it", d.Cut(nil), "", "")
	safe(t, d)
	safe(t, d)
	counts(t, "two in a row", d, 1, 0, 1)
	written(t, d, 0, "b")
	written(t, d, 1, "c")
	counts(t, "three writes", d, 3, 2, 3)
	holds(t, "two in a row", d.CutAt(2, nil), "a", "")
	safe(t, d)
	counts(t, "the last thing", d, 3, 0, 3)
	holds(t, "the last thing", d.Cut(nil), "b", "c")
	holds(t, "ahead of the last thing", d.CutAt(3, nil), "a", "")
	holds(t, "behind all", d, "b", "c")
}

// P7.2: what is safe stays, whatever a loss of power keeps: where no other write came behind it, its sector holds it.
func TestSafeStays(t *testing.T) {
	d := made(t, 4)
	for i := range 4 {
		written(t, d, i, "old")
	}
	safe(t, d)
	written(t, d, 0, "new")
	d.Tamper(1, []byte("tampered"))
	written(t, d, 0, "newer")
	written(t, d, 2, "new")
	for bits := range 1 << 5 {
		var keep []bool
		for k := range 5 {
			keep = append(keep, bits>>k&1 == 1)
		}
		c := d.Cut(keep)
		first := []string{"old", "new", "newer", "newer"}[bits&3]
		third := []string{"old", "new"}[bits>>2&1]
		holds(t, "whatever is kept", c, first, "tampered", third, "old")
		// P7.3: what was left is safe now, whatever the next loss of power keeps.
		for again := range 1 << 4 {
			next := []bool{again&1 == 1, again&2 == 2, again&4 == 4, again&8 == 8}
			holds(t, "again", c.Cut(next), first, "tampered", third, "old")
			holds(t, "again, at 3", c.CutAt(3, next), first, "tampered", third, "old")
			holds(t, "again, at moment 3", c.CutMoment(3, next), first, "tampered", third, "old")
		}
	}
}

// P7.3, D3: a device that was cut, written, and cut again: what the first loss of power left is what the next one falls back to.
func TestCutOfCut(t *testing.T) {
	d := made(t, 2)
	written(t, d, 0, "a")
	written(t, d, 1, "b")
	c := d.Cut([]bool{true})
	written(t, c, 0, "x")
	written(t, c, 1, "y")
	counts(t, "written behind the power", c, 2, 2, 2)
	holds(t, "kept nothing", c.Cut(nil), "a", "")
	holds(t, "kept the second", c.Cut([]bool{false, true}), "a", "y")
	holds(t, "at 0", c.CutAt(0, []bool{true}), "a", "")
	holds(t, "at 1", c.CutAt(1, []bool{true}), "x", "")
	holds(t, "at moment 0", c.CutMoment(0, []bool{true}), "a", "")
	safe(t, c)
	holds(t, "safe", c.Cut(nil), "x", "y")
	holds(t, "the first one", d, "a", "b")
	counts(t, "the first one", d, 2, 2, 2)
	holds(t, "the first one, kept the second", d.Cut([]bool{false, true}), "", "b")
}

// P7.1 (D3): the device that is cut stays as it is, and what is done on either one is not seen on the other.
func TestCutApart(t *testing.T) {
	for _, cut := range []func(d *Device) *Device{
		func(d *Device) *Device { return d.Cut([]bool{true, true, true}) },
		func(d *Device) *Device { return d.CutAt(9, []bool{true, true, true}) },
		func(d *Device) *Device { return d.CutMoment(9, []bool{true, true, true}) },
	} {
		s := everything(t)
		m := s.now(0)
		c, other := cut(s.devs[0]), cut(s.devs[0])
		s.hold()
		c.Write(0, []byte("x"))
		c.Tamper(1, []byte("y"))
		c.Sync()
		c.Spoil(2)
		c.Write(3, []byte("z"))
		c.Kill()
		s.holdCuts()
		m.hold(t, other)
		s.write("write", 0, 0, []byte("u"))
		s.write("tamper", 0, 1, []byte("v"))
		s.write("write", 0, 3, []byte("w"))
		s.sync(0)
		s.kill(0)
		m.hold(t, other)
		counts(t, "another one that was cut", other, 0, 0, 0)
	}
}

// D4: a device that counts alone has as many moments as writes, those of Tamper too; nothing else is a moment.
func TestMomentsAlone(t *testing.T) {
	d := made(t, 2)
	other := made(t, 2)
	for n := range 10 {
		counts(t, "alone", d, 2*n, 0, 2*n)
		written(t, d, n%2, "a")
		d.Tamper(1, []byte("b"))
		written(t, other, 0, "beside")
		d.Spoil(0)
		d.Read(0)
		d.Write(2, nil)
		d.Write(0, full(65, 1))
		d.Tamper(2, nil)
		d.Tamper(0, full(65, 1))
		d.Cut([]bool{true}).Write(0, nil)
		safe(t, d)
	}
}

// D4: two and three devices that count together, one of them written ahead of Together.
func TestTogether(t *testing.T) {
	a, b, c := made(t, 2), made(t, 2), made(t, 2)
	written(t, a, 0, "safe ahead")
	safe(t, a)
	written(t, a, 1, "ahead")
	written(t, c, 0, "alone")
	Together([]*Device{a, b})
	counts(t, "a, ahead of the first moment", a, 2, 1, 0)
	counts(t, "b, ahead of the first moment", b, 0, 0, 0)
	counts(t, "c, which counts alone", c, 1, 1, 1)
	safe(t, a)            // behind moment 0
	written(t, b, 0, "1") // moment 1
	written(t, c, 0, "not counted")
	written(t, a, 0, "2") // moment 2
	safe(t, a)
	b.Tamper(1, []byte("3")) // moment 3
	written(t, a, 1, "4")    // moment 4
	safe(t, b)
	counts(t, "a", a, 4, 1, 4)
	counts(t, "b", b, 2, 0, 4)
	counts(t, "c", c, 2, 2, 2)
	for m, want := range []struct{ nothing, all [2]string }{
		{[2]string{"safe ahead", ""}, [2]string{"safe ahead", "ahead"}},
		{[2]string{"safe ahead", "ahead"}, [2]string{"safe ahead", "ahead"}},
		{[2]string{"safe ahead", "ahead"}, [2]string{"2", "ahead"}},
		{[2]string{"2", "ahead"}, [2]string{"2", "ahead"}},
		{[2]string{"2", "ahead"}, [2]string{"2", "4"}},
	} {
		holds(t, "a, nothing kept", a.CutMoment(m, nil), want.nothing[:]...)
		holds(t, "a, all kept", a.CutMoment(m, []bool{true, true}), want.all[:]...)
	}
	for m, want := range []struct{ nothing, all [2]string }{
		{[2]string{"", ""}, [2]string{"", ""}},
		{[2]string{"", ""}, [2]string{"1", ""}},
		{[2]string{"", ""}, [2]string{"1", ""}},
		{[2]string{"", "3"}, [2]string{"1", "3"}},
		{[2]string{"", "3"}, [2]string{"1", "3"}},
	} {
		holds(t, "b, nothing kept", b.CutMoment(m, nil), want.nothing[:]...)
		holds(t, "b, all kept", b.CutMoment(m, []bool{true, true}), want.all[:]...)
	}
	// CutAt goes by the device's own writes, as ahead.
	holds(t, "a behind its first write", a.CutAt(1, []bool{true}), "safe ahead", "")
	holds(t, "a behind its third write", a.CutAt(3, nil), "safe ahead", "ahead")
}

// D4: together again later on: all that was done is ahead of the new moment 0.
func TestTogetherAgain(t *testing.T) {
	a, b, c := made(t, 1), made(t, 1), made(t, 1)
	Together([]*Device{a, b, c})
	written(t, a, 0, "a1")
	safe(t, a)
	written(t, b, 0, "b1")
	written(t, c, 0, "c1")
	counts(t, "a, of three", a, 1, 0, 3)
	Together([]*Device{a, b})
	counts(t, "a, anew", a, 1, 0, 0)
	counts(t, "b, anew", b, 1, 1, 0)
	counts(t, "c, which was not named", c, 1, 1, 3)
	holds(t, "a at 0", a.CutMoment(0, nil), "a1")
	holds(t, "b at 0", b.CutMoment(0, nil), "")
	holds(t, "b at 0, kept", b.CutMoment(0, []bool{true}), "b1")
	written(t, b, 0, "b2")
	counts(t, "a, behind b's write", a, 1, 0, 1)
	counts(t, "c, which does not count with b any more", c, 1, 1, 3)
	written(t, c, 0, "c2")
	counts(t, "a, behind c's write", a, 1, 0, 1)
	counts(t, "c, behind its own", c, 2, 2, 4)
	holds(t, "c behind moment 3", c.CutMoment(3, []bool{true, true}), "c1")
	holds(t, "c behind moment 2", c.CutMoment(2, []bool{true, true}), "")
	Together([]*Device{a})
	written(t, b, 0, "b3")
	counts(t, "a, alone", a, 1, 0, 0)
	counts(t, "b, alone", b, 3, 3, 2)
}

// D4: lists without devices, with nil ones, with one device twice.
func TestTogetherLists(t *testing.T) {
	a, b := made(t, 1), made(t, 1)
	written(t, a, 0, "a")
	Together(nil)
	Together([]*Device{})
	Together([]*Device{nil})
	Together([]*Device{nil, nil})
	counts(t, "a, which was not named", a, 1, 1, 1)
	holds(t, "a at 0", a.CutMoment(0, []bool{true}), "")
	Together([]*Device{nil, a, nil, b, nil})
	counts(t, "a, among nil ones", a, 1, 1, 0)
	written(t, b, 0, "b")
	counts(t, "a, behind b's write", a, 1, 1, 1)
	Together([]*Device{a, a, b, a})
	counts(t, "a, twice", a, 1, 1, 0)
	written(t, a, 0, "c")
	counts(t, "a, twice: one moment a write", a, 2, 2, 1)
	counts(t, "b beside it", b, 1, 1, 1)
	holds(t, "a at 0", a.CutMoment(0, []bool{true, true}), "a")
	Together([]*Device{a, a})
	written(t, b, 0, "d")
	counts(t, "a, twice and alone", a, 2, 2, 0)
}

// D4: a device that was cut from some that count together counts alone, from 0 on; the others do not count its writes.
func TestCutCountsAlone(t *testing.T) {
	a, b := made(t, 1), made(t, 1)
	Together([]*Device{a, b})
	written(t, a, 0, "a")
	written(t, b, 0, "b")
	for _, c := range []*Device{a.Cut(nil), a.CutAt(1, []bool{true}), a.CutMoment(2, nil)} {
		counts(t, "cut", c, 0, 0, 0)
		written(t, c, 0, "c")
		counts(t, "cut and written", c, 1, 1, 1)
		written(t, a, 0, "d")
		counts(t, "cut, and the others written", c, 1, 1, 1)
	}
	counts(t, "a", a, 4, 4, 5)
	counts(t, "b", b, 1, 1, 5)
	c, d := a.Cut(nil), b.Cut(nil)
	Together([]*Device{c, d})
	written(t, c, 0, "x")
	written(t, d, 0, "y")
	counts(t, "cut, and together", c, 1, 1, 2)
	counts(t, "a beside them", a, 4, 4, 5)
}

// D4, D3: moments at which only the others wrote, and a Sync between them.
func TestSyncBetweenMoments(t *testing.T) {
	a, b := made(t, 1), made(t, 1)
	Together([]*Device{a, b})
	written(t, a, 0, "a")
	written(t, b, 0, "b")
	safe(t, a)
	written(t, b, 0, "c")
	safe(t, a)
	written(t, b, 0, "d")
	for m, want := range []string{"", "", "", "a", "a"} {
		holds(t, "nothing kept", a.CutMoment(m, nil), want)
	}
	for m, want := range []string{"", "a", "a", "a", "a"} {
		holds(t, "kept", a.CutMoment(m, []bool{true}), want)
	}
	// A Sync of the one makes nothing safe on the other.
	holds(t, "b", b.Cut(nil), "")
	counts(t, "b", b, 3, 3, 4)
}

// Rule 4: bytes that were handed in may be changed by their owner: neither the sector changes, nor what a loss of power leaves.
func TestHandedInStays(t *testing.T) {
	d := made(t, 2)
	memory := full(100, 1)
	b := memory[10:20]
	if e := d.Write(0, b); e != api.OK {
		t.Fatal(e)
	}
	d.Tamper(1, b)
	if !bytes.Equal(memory, full(100, 1)) {
		t.Error("what was handed in was written into")
	}
	want := string(full(100, 1)[10:20])
	clear(memory)
	holds(t, "changed behind", d, want, want)
	holds(t, "changed behind, cut", d.Cut([]bool{true}), want, want)
	holds(t, "changed behind, cut at 2", d.CutAt(2, []bool{true}), want, want)
	keep := []bool{true, false, true}
	whole := keep[:1]
	c := d.CutMoment(2, whole)
	if !slices.Equal(keep, []bool{true, false, true}) {
		t.Error("keep was written into")
	}
	keep[0] = false
	holds(t, "keep changed behind", c, want, want)
	holds(t, "keep changed behind, cut", c.Cut(keep), want, want)
}

// Rule 4: what Read told may be changed by who asked: no sector changes, nor what another Read told.
func TestReadIsNew(t *testing.T) {
	d := made(t, 2)
	written(t, d, 0, "a")
	safe(t, d)
	c := d.Cut(nil)
	for _, x := range []*Device{d, c} {
		for i, want := range []string{"a", ""} {
			b, _ := x.Read(i)
			again, _ := x.Read(i)
			for k := range b[:cap(b)] {
				b[:cap(b)][k] = 255
			}
			if !bytes.Equal(again, padded([]byte(want))) {
				t.Errorf("another Read's bytes changed: %x", again)
			}
			holds(t, "a Read's bytes changed", x, "a", "")
		}
	}
	holds(t, "cut", d.Cut(nil), "a", "")
	holds(t, "cut at 1", d.CutAt(1, []bool{true}), "a", "")
	holds(t, "cut again", c.Cut(nil), "a", "")
}

// Rule 4: the list that Together was handed may be changed by its owner.
func TestTogetherKeepsNoList(t *testing.T) {
	a, b, c := made(t, 1), made(t, 1), made(t, 1)
	memory := []*Device{a, b, c}
	l := memory[:2]
	Together(l)
	if l[0] != a || l[1] != b || memory[2] != c {
		t.Error("the list was written into")
	}
	l[1] = c
	written(t, c, 0, "c")
	written(t, b, 0, "b")
	counts(t, "a", a, 0, 0, 1)
	counts(t, "c, behind the list's end", c, 1, 1, 1)
}

// P2: two devices on which the same is done tell the same, whatever is asked of one of them between.
func TestSameStepsSameAnswers(t *testing.T) {
	a, b := made(t, 2), made(t, 2)
	for n := range 20 {
		for _, d := range []*Device{a, b} {
			d.Write(n%2, full(n, n))
			if n%5 == 0 {
				d.Sync()
			}
		}
		b.Cut([]bool{true}).Write(0, []byte("x"))
		b.CutAt(n/2, nil).Sync()
		b.CutMoment(n/2, nil).Kill()
		b.Read(0)
		b.Read(9)
		b.Bad(1)
		holds(t, "now", b, heldTexts(t, a)...)
		counts(t, "now", b, a.Writes(), a.Pending(), a.Moment())
		for k := range n + 2 {
			holds(t, "cut", b.CutAt(k, []bool{false, true}), heldTexts(t, a.CutAt(k, []bool{false, true}))...)
		}
	}
}
