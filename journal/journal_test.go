package journal

import (
	"bytes"
	"crypto/sha256"
	"encoding/binary"
	"math"
	"slices"
	"strconv"
	"testing"

	"cofferdam/api"
	"cofferdam/device"
)

// full is so many bytes, none of them a nought; another seed makes others.
func full(n, seed int) []byte {
	b := make([]byte, n)
	for i := range b {
		b[i] = byte((i*7+seed*31)%255 + 1)
	}
	return b
}

// some are records of these lengths, each with bytes of its own.
func some(lengths ...int) [][]byte {
	var l [][]byte
	for k, n := range lengths {
		l = append(l, full(n, n+k))
	}
	return l
}

// chooser chooses numbers below n, the same ones each time.
func chooser(seed int) func(n int) int {
	x := uint64(seed)*2654435761 + 12345
	return func(n int) int {
		x = x*6364136223846793005 + 1442695040888963407
		return int(x>>33) % n
	}
}

// stood is a record as the form asks for it, put together by another hand.
func stood(record []byte) []byte {
	digest := sha256.Sum256(record)
	b := binary.BigEndian.AppendUint32(nil, uint32(len(record)))
	b = append(b, digest[:4]...)
	b = append(b, record...)
	for len(b)%8 != 0 {
		b = append(b, 0)
	}
	return b
}

// stoodAll are records as the form asks for them, one behind the other.
func stoodAll(records [][]byte) []byte {
	var b []byte
	for _, r := range records {
		b = append(b, stood(r)...)
	}
	return b
}

// asked is what a device of so many sectors holds with these records.
func asked(sectors int, records [][]byte) []byte {
	b := make([]byte, sectors*64)
	copy(b, stoodAll(records))
	return b
}

// made is a new device.
func made(t *testing.T, sectors int) *device.Device {
	t.Helper()
	d, e := device.New(sectors)
	if d == nil || e != api.OK {
		t.Fatalf("New(%d): %v", sectors, e)
	}
	return d
}

// put writes bytes on a device, from its first sector on; they are not safe yet.
func put(t *testing.T, d *device.Device, b []byte) {
	t.Helper()
	for i := range d.Size() {
		if len(b) == 0 {
			return
		}
		n := min(64, len(b))
		if e := d.Write(i, b[:n]); e != api.OK {
			t.Fatalf("Write(%d): %v", i, e)
		}
		b = b[n:]
	}
	if len(b) > 0 {
		t.Fatalf("%d bytes do not fit", len(b))
	}
}

// laid is a device that holds bytes, all safe, and on which nothing was written.
func laid(t *testing.T, sectors int, b []byte) *device.Device {
	t.Helper()
	d := made(t, sectors)
	put(t, d, b)
	return d.Cut(slices.Repeat([]bool{true}, sectors))
}

// image is what a device holds.
func image(t *testing.T, d *device.Device) []byte {
	t.Helper()
	var b []byte
	for i := range d.Size() {
		s, e := d.Read(i)
		if e != api.OK {
			t.Fatalf("Read(%d): %v", i, e)
		}
		b = append(b, s...)
	}
	return b
}

// formatted is a journal on a new device.
func formatted(t *testing.T, sectors int) (*device.Device, *Journal) {
	t.Helper()
	d := made(t, sectors)
	j, e := Format(d)
	if j == nil || e != api.OK {
		t.Fatalf("Format of %d sectors: %v, %v", sectors, j, e)
	}
	return d, j
}

// opened is the journal that Open tells.
func opened(t *testing.T, what string, d *device.Device) *Journal {
	t.Helper()
	j, e := Open(d)
	if j == nil || e != api.OK {
		t.Fatalf("%s: Open: %v, %v", what, j, e)
	}
	return j
}

// added adds records.
func added(t *testing.T, j *Journal, records ...[]byte) {
	t.Helper()
	for _, r := range records {
		if e := j.Add(r); e != api.OK {
			t.Fatalf("Add of %d bytes, %d free: %v", len(r), j.Free(), e)
		}
	}
}

// flushed flushes.
func flushed(t *testing.T, j *Journal) {
	t.Helper()
	if e := j.Flush(); e != api.OK {
		t.Fatalf("Flush: %v", e)
	}
}

// begun is a device, and its journal with these records, all flushed.
func begun(t *testing.T, sectors int, records [][]byte) (*device.Device, *Journal) {
	t.Helper()
	d, j := formatted(t, sectors)
	added(t, j, records...)
	flushed(t, j)
	return d, j
}

// same tells whether two lists hold the same records in the same order.
func same(l, m [][]byte) bool {
	return slices.EqualFunc(l, m, bytes.Equal)
}

// lengths are those of records.
func lengths(l [][]byte) []int {
	n := []int{}
	for _, r := range l {
		n = append(n, len(r))
	}
	return n
}

// tells asks for all that a journal tells.
func tells(t *testing.T, what string, j *Journal, sectors int, records [][]byte, flushed int) {
	t.Helper()
	if l := j.Records(); !same(l, records) {
		t.Errorf("%s: Records of %v bytes; want %v, or with other bytes", what, lengths(l), lengths(records))
	}
	if n := j.Flushed(); n != flushed {
		t.Errorf("%s: Flushed %d; want %d", what, n, flushed)
	}
	if n, want := j.Free(), sectors*64-len(stoodAll(records)); n != want {
		t.Errorf("%s: Free %d; want %d", what, n, want)
	}
}

// holds asks that a device holds records in the form, and nothing else, all of it safe.
func holds(t *testing.T, what string, d *device.Device, records [][]byte) {
	t.Helper()
	want := asked(d.Size(), records)
	for _, c := range []*device.Device{d, d.Cut(nil)} {
		if b := image(t, c); !bytes.Equal(b, want) {
			at := 0
			for b[at] == want[at] {
				at++
			}
			t.Errorf("%s: the device holds %d at byte %d; want %d", what, b[at], at, want[at])
		}
	}
	if d.Pending() != 0 {
		t.Errorf("%s: %d writes are not safe", what, d.Pending())
	}
}

// all says of n writes that they are kept.
func all(n int) []bool {
	return slices.Repeat([]bool{true}, n)
}

// keeps are choices of n writes: none, all, each one alone, all but each one, and others; every one, if there are few.
func keeps(n int) [][]bool {
	l := [][]bool{nil, all(n), slices.Repeat([]bool{true, false}, n), slices.Repeat([]bool{false, true}, n), slices.Repeat([]bool{false, true, true}, n)}
	for k := range n {
		alone, others := make([]bool, n), all(n)
		alone[k], others[k] = true, false
		l = append(l, alone, others, all(n)[:k])
	}
	if n <= 5 {
		for bits := range 1 << n {
			var keep []bool
			for k := range n {
				keep = append(keep, bits>>k&1 == 1)
			}
			l = append(l, keep)
		}
	}
	return l
}

// cutsBehind cuts a device behind each of its writes but for the first ones, which are safe, with many choices of those that are not. (A device tells nothing of the time behind a Sync and ahead of the next write: a cut behind the last of the first ones would be one ahead of their Sync.)
func cutsBehind(d *device.Device, from int, look func(what string, c *device.Device)) {
	for n := from + 1; n <= d.Writes(); n++ {
		for k, keep := range keeps(n - from) {
			look("behind write "+strconv.Itoa(n-from)+", choice "+strconv.Itoa(k), d.CutAt(n, keep))
		}
	}
}

// opensAs asks that Open of what a loss of power left tells one of some lists, brings the device into the form, and tells the same again. It tells which list it was.
func opensAs(t *testing.T, what string, c *device.Device, allowed ...[][]byte) int {
	t.Helper()
	j := opened(t, what, c)
	told := j.Records()
	which := slices.IndexFunc(allowed, func(l [][]byte) bool { return same(l, told) })
	if which < 0 {
		t.Fatalf("%s: records of %v bytes are told", what, lengths(told))
	}
	tells(t, what, j, c.Size(), told, len(told))
	holds(t, what, c, told)
	tells(t, what+", opened again", opened(t, what, c), c.Size(), told, len(told))
	if t.Failed() {
		t.FailNow()
	}
	return which
}

// shapes are lists of records over one sector, over many, with ends in a sector's midst and at its end.
func shapes() [][][]byte {
	return [][][]byte{
		some(),
		some(1),
		some(8),
		some(56),          // a whole sector
		some(40, 1),       // a whole sector
		some(48, 8),       // the second one's bytes begin a sector
		some(40, 30),      // the second one's bytes lie in two
		some(1, 2, 3),     // three in one
		some(57),          // a byte more than a sector
		some(120, 120),    // two whole sectors each
		some(200, 3, 300), // over many
		some(9, 500, 1),
		some(7, 7, 7, 110),
	}
}

// P9.1 (J1, J2): two records, byte by byte as they are written out here.
func TestFormWrittenOut(t *testing.T) {
	d, j := formatted(t, 1)
	added(t, j, []byte("abc"))
	flushed(t, j)
	want := make([]byte, 64)
	copy(want, []byte{0, 0, 0, 3, 0xba, 0x78, 0x16, 0xbf, 'a', 'b', 'c', 0, 0, 0, 0, 0})
	if b := image(t, d); !bytes.Equal(b, want) {
		t.Errorf("a record: % x; want % x", b, want)
	}
	added(t, j, []byte{0})
	flushed(t, j)
	copy(want[16:], []byte{0, 0, 0, 1, 0x6e, 0x34, 0x0b, 0x9c, 0, 0, 0, 0, 0, 0, 0, 0})
	if b := image(t, d); !bytes.Equal(b, want) {
		t.Errorf("two records: % x; want % x", b, want)
	}
	tells(t, "opened", opened(t, "two records", d), 1, [][]byte{[]byte("abc"), {0}}, 2)

	d, j = formatted(t, 5)
	added(t, j, full(259, 1))
	flushed(t, j)
	if b := image(t, d); !bytes.Equal(b[:4], []byte{0, 0, 1, 3}) || !bytes.Equal(b[8:267], full(259, 1)) {
		t.Errorf("259 bytes: % x", b[:16])
	}
}

// P9.1 (J1, J2): Format, Add, Flush, Add, Flush, Open, Clear, Open: what is told, and what the device holds, at each step.
func TestSteps(t *testing.T) {
	const sectors = 6
	d, j := formatted(t, sectors)
	tells(t, "Format", j, sectors, nil, 0)
	holds(t, "Format", d, nil)
	one, two, three := full(3, 1), full(100, 2), full(64, 3)
	added(t, j, one)
	tells(t, "Add", j, sectors, [][]byte{one}, 0)
	holds(t, "Add", d, nil)
	added(t, j, two)
	tells(t, "Add of a second", j, sectors, [][]byte{one, two}, 0)
	holds(t, "Add of a second", d, nil)
	flushed(t, j)
	tells(t, "Flush", j, sectors, [][]byte{one, two}, 2)
	holds(t, "Flush", d, [][]byte{one, two})
	added(t, j, three, one)
	tells(t, "Add behind Flush", j, sectors, [][]byte{one, two, three, one}, 2)
	holds(t, "Add behind Flush", d, [][]byte{one, two})
	flushed(t, j)
	tells(t, "a second Flush", j, sectors, [][]byte{one, two, three, one}, 4)
	holds(t, "a second Flush", d, [][]byte{one, two, three, one})
	k := opened(t, "behind Flush", d)
	tells(t, "Open", k, sectors, [][]byte{one, two, three, one}, 4)
	added(t, k, two)
	tells(t, "Add behind Open", k, sectors, [][]byte{one, two, three, one, two}, 4)
	flushed(t, k)
	holds(t, "Flush behind Open", d, [][]byte{one, two, three, one, two})
	if e := k.Clear(); e != api.OK {
		t.Errorf("Clear: %v", e)
	}
	tells(t, "Clear", k, sectors, nil, 0)
	holds(t, "Clear", d, nil)
	tells(t, "Open behind Clear", opened(t, "behind Clear", d), sectors, nil, 0)
	added(t, k, one)
	flushed(t, k)
	tells(t, "Flush behind Clear", k, sectors, [][]byte{one}, 1)
	holds(t, "Flush behind Clear", d, [][]byte{one})
}

// P9.1 (J1, J2): records of each shape, flushed at once and one by one, are there when the journal is opened.
func TestShapes(t *testing.T) {
	for _, records := range shapes() {
		for _, sectors := range []int{12, 30} {
			d, j := begun(t, sectors, records)
			tells(t, "at once", j, sectors, records, len(records))
			holds(t, "at once", d, records)
			d, j = formatted(t, sectors)
			for n, r := range records {
				added(t, j, r)
				tells(t, "added", j, sectors, records[:n+1], n)
				flushed(t, j)
				tells(t, "one by one", j, sectors, records[:n+1], n+1)
				holds(t, "one by one", d, records[:n+1])
				k := opened(t, "one by one", d.Cut(nil))
				tells(t, "one by one, opened", k, sectors, records[:n+1], n+1)
			}
		}
	}
}

// P9.1 (J2): records of one byte up to MaxRecord, alone and behind another.
func TestLengths(t *testing.T) {
	if api.MaxRecord != 8192 {
		t.Fatalf("MaxRecord %d", api.MaxRecord)
	}
	l := []int{100, 128, 255, 256, 257, 1000, 4096, 8183, 8184, 8185, 8190, 8191, 8192}
	for n := 1; n <= 80; n++ {
		l = append(l, n)
	}
	for _, n := range l {
		for _, records := range [][][]byte{some(n), some(5, n), some(n, 5), some(50, n, n)} {
			sectors := len(stoodAll(records))/64 + 1
			d, j := begun(t, sectors, records)
			what := strconv.Itoa(n) + " bytes"
			tells(t, what, j, sectors, records, len(records))
			holds(t, what, d, records)
			tells(t, what+", opened", opened(t, what, d), sectors, records, len(records))
		}
	}
}

// P9.1 (J1, J2): records of noughts, and of what looks like records, are told as they are.
func TestRecordsOfAllKinds(t *testing.T) {
	records := [][]byte{make([]byte, 1), make([]byte, 64), stoodAll(some(3, 9)), bytes.Repeat([]byte{255}, 70), make([]byte, 200), stood(nil)}
	d, j := begun(t, 20, records)
	tells(t, "all kinds", j, 20, records, len(records))
	holds(t, "all kinds", d, records)
	tells(t, "all kinds, opened", opened(t, "all kinds", d), 20, records, len(records))
}

// P9.1 (J2): a record that fills the device to its last byte, and one that is a byte too long for what is left.
func TestFull(t *testing.T) {
	for _, sectors := range []int{1, 2, 3, 128} {
		for _, ahead := range [][][]byte{some(), some(1), some(9, 1)} {
			room := sectors*64 - len(stoodAll(ahead)) - 8
			d, j := begun(t, sectors, ahead)
			if e := j.Add(full(room+1, 1)); e != api.ErrJourFull {
				t.Errorf("a byte too long: %v; want ErrJourFull", e)
			}
			tells(t, "a byte too long", j, sectors, ahead, len(ahead))
			records := append(slices.Clone(ahead), full(room, 1))
			added(t, j, records[len(ahead)])
			tells(t, "full", j, sectors, records, len(ahead))
			for _, n := range []int{1, 7, 8, 8192} {
				if e := j.Add(full(n, 2)); e != api.ErrJourFull {
					t.Errorf("Add of %d to what is full: %v; want ErrJourFull", n, e)
				}
			}
			flushed(t, j)
			tells(t, "full, flushed", j, sectors, records, len(records))
			holds(t, "full", d, records)
			tells(t, "full, opened", opened(t, "full", d), sectors, records, len(records))
			holds(t, "full, opened", d, records)
		}
	}
}

// P9.1 (J2): with 8 bytes left no record fits, with 16 one of up to 8 bytes.
func TestLittleLeft(t *testing.T) {
	_, j := begun(t, 2, some(64, 40))
	tells(t, "8 left", j, 2, some(64, 40), 2)
	if e := j.Add(full(1, 1)); j.Free() != 8 || e != api.ErrJourFull {
		t.Errorf("%d left: %v; want ErrJourFull", j.Free(), e)
	}
	_, j = begun(t, 2, some(64, 32))
	if e := j.Add(full(9, 1)); j.Free() != 16 || e != api.ErrJourFull {
		t.Errorf("%d left: %v; want ErrJourFull", j.Free(), e)
	}
	added(t, j, full(8, 1))
	if j.Free() != 0 {
		t.Errorf("Free %d; want 0", j.Free())
	}
}

// P9.1 (J1, J2): the greatest device, full of records of MaxRecord bytes, and of a byte.
func TestGreatest(t *testing.T) {
	var long, short [][]byte
	for len(stoodAll(long))+8200 <= 2048*64 {
		long = append(long, full(8192, len(long)))
	}
	long = append(long, full(2048*64-len(stoodAll(long))-8, 99))
	for n := range 2048 * 4 {
		short = append(short, []byte{byte(n%255 + 1)})
	}
	for _, records := range [][][]byte{long, short} {
		d, j := begun(t, 2048, records)
		if j.Free() != 0 {
			t.Errorf("Free %d; want 0", j.Free())
		}
		holds(t, "the greatest", d, records)
		tells(t, "the greatest", opened(t, "the greatest", d), 2048, records, len(records))
	}
}

// P9.1 (J2), rule 1: a record of no bytes, or of too many, be there room or not: nothing has changed.
func TestWrongLengths(t *testing.T) {
	for _, records := range [][][]byte{some(), some(3), some(56), some(40)} {
		for _, sectors := range []int{1, 2, 300} {
			d, j := begun(t, sectors, records)
			for _, b := range [][]byte{nil, {}, full(8193, 1), full(8194, 1), full(8200, 1), full(16384, 1), make([]byte, 1<<20)} {
				if e := j.Add(b); e != api.ErrJourLong {
					t.Errorf("Add of %d bytes, %d free: %v; want ErrJourLong", len(b), j.Free(), e)
				}
			}
			tells(t, "wrong lengths", j, sectors, records, len(records))
			flushed(t, j)
			holds(t, "wrong lengths", d, records)
		}
	}
}

// turned is bytes with one bit turned.
func turned(b []byte, bit int) []byte {
	c := bytes.Clone(b)
	c[bit/8] ^= 1 << (bit % 8)
	return c
}

// headed is bytes that begin with a count of its own, and the right digest of what is behind it.
func headed(count uint32, b []byte) []byte {
	s := stood(b)
	binary.BigEndian.PutUint32(s, count)
	return s
}

// noRecords are bytes that begin with no record, where there is room for so many.
func noRecords(room int) map[string][]byte {
	m := map[string][]byte{
		"noughts":                  make([]byte, 8),
		"a count alone":            {0, 0, 0, 3},
		"nothing but bits":         bytes.Repeat([]byte{255}, 40),
		"no bytes, digest right":   stood(nil),
		"no bytes, others behind":  headed(0, full(9, 1)),
		"one byte fewer":           headed(8, full(9, 1)),
		"one byte more":            headed(10, full(9, 1)),
		"the lowest first":         headed(9<<24, full(9, 1)),
		"a count of 2^31":          headed(1<<31, full(9, 1)),
		"a count of 2^31 + 9":      headed(1<<31+9, full(9, 1)),
		"a count of 2^32 - 1":      headed(math.MaxUint32, full(9, 1)),
		"a count of 2^32 - 8":      headed(math.MaxUint32-7, full(9, 1)),
		"a byte beyond the end":    headed(uint32(room-7), full(9, 1)),
		"8 bytes beyond the end":   headed(uint32(room), full(9, 1)),
		"a count of MaxRecord":     headed(8192, full(9, 1)),
		"a count of MaxRecord + 1": headed(8193, full(9, 1)),
		"8 bytes behind":           append(make([]byte, 8), stood(full(9, 1))...),
		"a digest's other bytes":   stood(full(9, 1)),
	}
	digest := sha256.Sum256(full(9, 1))
	copy(m["a digest's other bytes"][4:], digest[4:8])
	for _, n := range []int{1, 8, 9, 60, 150} {
		s := stood(full(n, n))
		for bit := range len(s) * 8 {
			m["bit "+strconv.Itoa(bit)+" of a record of "+strconv.Itoa(n)] = turned(s, bit)
		}
	}
	return m
}

// P9.1 (J1): where no record begins the journal ends, whatever stands behind it; that is made noughts, all safe.
func TestNoRecordBegins(t *testing.T) {
	const sectors = 9
	for _, records := range [][][]byte{some(), some(3), some(56), some(40, 8), some(1, 30, 80), some(100)} {
		ahead := stoodAll(records)
		for what, b := range noRecords(sectors*64 - len(ahead)) {
			for _, behind := range [][]byte{nil, stoodAll(some(20, 2))} {
				d := laid(t, sectors, slices.Concat(ahead, b, behind))
				what := what + ", behind " + strconv.Itoa(len(records))
				j := opened(t, what, d)
				tells(t, what, j, sectors, records, len(records))
				holds(t, what, d, records)
				added(t, j, full(10, 9))
				flushed(t, j)
				holds(t, what+", flushed", d, append(slices.Clone(records), full(10, 9)))
			}
			if t.Failed() {
				return
			}
		}
	}
}

// P9.1 (J1): a record of MaxRecord bytes is one, one of a byte more is none, though its digest is right.
func TestOpenLongest(t *testing.T) {
	for n, want := range map[int][][]byte{8191: some(8191), 8192: some(8192), 8193: nil, 8200: nil, 9000: nil} {
		for _, ahead := range [][][]byte{nil, some(3)} {
			d := laid(t, 150, append(stoodAll(ahead), stood(full(n, n))...))
			records := append(slices.Clone(ahead), want...)
			tells(t, strconv.Itoa(n)+" bytes", opened(t, "the longest", d), 150, records, len(records))
			holds(t, strconv.Itoa(n)+" bytes", d, records)
		}
	}
}

// P9.1 (J1): a record that ends with the device is one, up to its last nought; one that leads beyond it is none.
func TestOpenAtTheEnd(t *testing.T) {
	for _, sectors := range []int{1, 2, 5} {
		for n := sectors*64 - 16; n <= sectors*64-8; n++ {
			d := laid(t, sectors, stood(full(n, 3)))
			want := [][]byte{full(n, 3)}
			tells(t, "at the end", opened(t, "at the end", d), sectors, want, 1)
			holds(t, "at the end", d, want)
		}
		for n := sectors*64 - 7; n < sectors*64+9; n++ {
			d := laid(t, sectors, stood(full(n, 3))[:sectors*64])
			tells(t, "beyond the end", opened(t, "beyond the end", d), sectors, nil, 0)
			holds(t, "beyond the end", d, nil)
		}
	}
}

// P9.1 (J1): Open of a new device; of bytes that were never a journal; of one whose last sector alone is written.
func TestOpenOthers(t *testing.T) {
	for _, sectors := range []int{1, 2, 17, 2048} {
		for _, b := range [][]byte{nil, full(sectors*64, 1), bytes.Repeat([]byte{255}, sectors*64), append(make([]byte, sectors*64-1), 1), append(make([]byte, sectors*64-64), stood(full(3, 1))...)} {
			if sectors == 1 && len(b) > 0 && b[3] == 3 {
				continue // that one is a record
			}
			d := laid(t, sectors, b)
			tells(t, "no journal", opened(t, "no journal", d), sectors, nil, 0)
			holds(t, "no journal", d, nil)
		}
	}
}

// P9.1 (J1, J2): what Open tells, and what is made of it, is safe, though its records were written and not made safe.
func TestOpenMakesSafe(t *testing.T) {
	for _, behind := range [][]byte{nil, full(70, 1), make([]byte, 100)} {
		d := made(t, 8)
		put(t, d, append(stoodAll(some(70, 3)), behind...))
		tells(t, "not safe", opened(t, "not safe", d), 8, some(70, 3), 2)
		holds(t, "not safe", d, some(70, 3))
	}
}

// P9.1 (J2): records that are added and not flushed are not there when the journal is opened again.
func TestNotFlushed(t *testing.T) {
	for _, records := range shapes() {
		for _, more := range shapes() {
			d, j := begun(t, 40, records)
			added(t, j, more...)
			holds(t, "not flushed", d, records)
			k := opened(t, "not flushed", d.Cut(all(99)))
			tells(t, "not flushed, opened", k, 40, records, len(records))
			tells(t, "not flushed", j, 40, append(slices.Clone(records), more...), len(records))
		}
	}
}

// P9.1 (J2): Flush when nothing is new, and Flush twice: OK, and nothing is written.
func TestFlushOfNothing(t *testing.T) {
	for _, records := range shapes() {
		d, j := begun(t, 20, records)
		writes := d.Writes()
		for range 3 {
			flushed(t, j)
			tells(t, "nothing new", j, 20, records, len(records))
			holds(t, "nothing new", d, records)
		}
		k := opened(t, "nothing new", d)
		flushed(t, k)
		tells(t, "nothing new, opened", k, 20, records, len(records))
		if d.Writes() != writes {
			t.Errorf("nothing new: %d writes", d.Writes()-writes)
		}
	}
}

// P9.1 (J2): Clear of records that are flushed and of such that are not, twice, and other records behind it.
func TestClear(t *testing.T) {
	for _, records := range shapes() {
		for _, more := range shapes() {
			d, j := begun(t, 40, records)
			added(t, j, more...)
			for range 2 {
				if e := j.Clear(); e != api.OK {
					t.Errorf("Clear: %v", e)
				}
				tells(t, "Clear", j, 40, nil, 0)
				holds(t, "Clear", d, nil)
				flushed(t, j)
				holds(t, "Flush behind Clear", d, nil)
			}
			tells(t, "opened behind Clear", opened(t, "Clear", d), 40, nil, 0)
			added(t, j, more...)
			flushed(t, j)
			tells(t, "others behind Clear", j, 40, more, len(more))
			holds(t, "others behind Clear", d, more)
		}
	}
}

// P9.1 (J1): Format over a journal, and over other bytes, bad sectors among them: noughts, all safe.
func TestFormatOver(t *testing.T) {
	for _, sectors := range []int{1, 2, 30, 2048} {
		for _, b := range [][]byte{nil, stood(full(20, 1)), full(sectors*64, 1)} {
			for _, bad := range [][]int{nil, {0}, {sectors / 2}, {sectors - 1}, {0, sectors / 2, sectors - 1}} {
				d := laid(t, sectors, b)
				d.Write(0, full(64, 5))
				for _, i := range bad {
					d.Spoil(i)
				}
				j, e := Format(d)
				if j == nil || e != api.OK {
					t.Fatalf("Format: %v, %v", j, e)
				}
				tells(t, "Format", j, sectors, nil, 0)
				holds(t, "Format", d, nil)
				tells(t, "Format, opened", opened(t, "Format", d), sectors, nil, 0)
			}
		}
	}
}

// P9.1 (J1), P1, rule 8: no device; a nil journal in every call.
func TestNil(t *testing.T) {
	if j, e := Format(nil); j != nil || e != api.ErrArg {
		t.Errorf("Format of nothing: %v, %v; want ErrArg", j, e)
	}
	if j, e := Open(nil); j != nil || e != api.ErrArg {
		t.Errorf("Open of nothing: %v, %v; want ErrArg", j, e)
	}
	var j *Journal
	for _, b := range [][]byte{nil, {}, full(1, 1), full(8192, 1), full(8193, 1)} {
		if e := j.Add(b); e != api.ErrArg {
			t.Errorf("Add of %d bytes on nil: %v; want ErrArg", len(b), e)
		}
	}
	if e := j.Flush(); e != api.ErrArg {
		t.Errorf("Flush on nil: %v; want ErrArg", e)
	}
	if e := j.Clear(); e != api.ErrArg {
		t.Errorf("Clear on nil: %v; want ErrArg", e)
	}
	if l := j.Records(); len(l) != 0 || j.Flushed() != 0 || j.Free() != 0 {
		t.Errorf("nil: %v, %d, %d", l, j.Flushed(), j.Free())
	}
}

// P9.1 (J1): a device that is dead, with bad sectors or without: ErrDevDead, and no journal.
func TestDead(t *testing.T) {
	for _, records := range shapes() {
		d, _ := begun(t, 20, records)
		bad := d.Cut(nil)
		bad.Spoil(0)
		bad.Kill()
		d.Kill()
		for _, dead := range []*device.Device{d, bad, d.Cut(nil)} {
			if j, e := Format(dead); j != nil || e != api.ErrDevDead {
				t.Errorf("Format: %v, %v; want ErrDevDead", j, e)
			}
			if j, e := Open(dead); j != nil || e != api.ErrDevDead {
				t.Errorf("Open: %v, %v; want ErrDevDead", j, e)
			}
		}
	}
}

// P9.1 (J2), rule 3: a device that dies between two calls: Flush and Clear say so, if there is anything to do; all else goes on.
func TestDies(t *testing.T) {
	for _, records := range shapes() {
		for _, more := range shapes() {
			d, j := begun(t, 40, records)
			added(t, j, more...)
			d.Kill()
			both, want := append(slices.Clone(records), more...), api.ErrDevDead
			if len(more) == 0 {
				want = api.OK
			}
			for range 2 {
				if e := j.Flush(); e != want {
					t.Errorf("Flush of %d new ones: %v; want %v", len(more), e, want)
				}
				tells(t, "Flush on a dead device", j, 40, both, len(records))
				if e := j.Clear(); e != api.ErrDevDead {
					t.Errorf("Clear: %v; want ErrDevDead", e)
				}
				tells(t, "Clear on a dead device", j, 40, both, len(records))
			}
			added(t, j, full(5, 5))
			both = append(both, full(5, 5))
			tells(t, "Add on a dead device", j, 40, both, len(records))
			if e := j.Flush(); e != api.ErrDevDead {
				t.Errorf("Flush: %v; want ErrDevDead", e)
			}
			tells(t, "Flush on a dead device", j, 40, both, len(records))
		}
	}
}

// P9.1 (J1), rule 3: a bad sector at the beginning, in the midst or at the end, among the records or behind them: Open says so, and nothing has changed, nor is anything safe that was not.
func TestOpenBad(t *testing.T) {
	for _, b := range [][]byte{nil, stoodAll(some(200, 3)), full(640, 1)} {
		for _, bad := range [][]int{{0}, {1}, {3}, {5}, {9}, {0, 9}, {4, 5, 6}} {
			d := laid(t, 10, b)
			d.Write(7, full(9, 1))
			for _, i := range bad {
				d.Spoil(i)
			}
			if j, e := Open(d); j != nil || e != api.ErrDevBad {
				t.Errorf("Open, bad at %v: %v, %v; want ErrDevBad", bad, j, e)
			}
			if d.Writes() != 1 || d.Pending() != 1 {
				t.Errorf("Open, bad at %v: %d writes, %d not safe", bad, d.Writes(), d.Pending())
			}
			for i := range 10 {
				if d.Bad(i) != slices.Contains(bad, i) {
					t.Errorf("Open, bad at %v: Bad(%d) is %v", bad, i, d.Bad(i))
				}
			}
		}
	}
}

// harms are what may happen to the sectors of a device while a journal stands on it.
func harms() map[string]func(d *device.Device, i int) {
	return map[string]func(d *device.Device, i int){
		"bad":         (*device.Device).Spoil,
		"tampered":    func(d *device.Device, i int) { d.Tamper(i, full(64, 77)) },
		"blanked":     func(d *device.Device, i int) { d.Tamper(i, nil) },
		"a record":    func(d *device.Device, i int) { d.Tamper(i, stood(full(4, 4))) },
		"written":     func(d *device.Device, i int) { d.Write(i, full(64, 78)) },
		"bad, others": func(d *device.Device, i int) { d.Tamper(i, full(64, 79)); d.Spoil(i) },
	}
}

// P9.1 (J2): a sector that went bad, or that somebody else has written, wherever it lies: behind Flush all records are safe on the device, behind Clear it holds noughts.
func TestHarmed(t *testing.T) {
	records, more := some(30, 90, 5), some(20, 150, 3)
	both := append(slices.Clone(records), more...)
	for what, harm := range harms() {
		for i := range 12 {
			d, j := begun(t, 12, records)
			added(t, j, more...)
			harm(d, i)
			what := what + " sector " + strconv.Itoa(i)
			flushed(t, j)
			tells(t, what+", flushed", j, 12, both, len(both))
			holds(t, what+", flushed", d, both)
			tells(t, what+", opened", opened(t, what, d), 12, both, len(both))
			harm(d, i)
			if e := j.Clear(); e != api.OK {
				t.Errorf("%s: Clear: %v", what, e)
			}
			tells(t, what+", cleared", j, 12, nil, 0)
			holds(t, what+", cleared", d, nil)
			harm(d, i)
			if e := j.Clear(); e != api.OK {
				t.Errorf("%s: a second Clear: %v", what, e)
			}
			holds(t, what+", cleared again", d, nil)
		}
	}
}

// overwrite writes over a list's bytes, and behind them into its memory.
func overwrite(b []byte) {
	b = b[:cap(b)]
	for i := range b {
		b[i] ^= 0x5a
	}
}

// P9.1, rule 4: bytes that were handed in stay as they are, behind their length too, and may be changed by their owner.
func TestArgumentsAreTheirOwners(t *testing.T) {
	memory := full(60, 1)
	d, j := formatted(t, 9)
	for n := 1; n <= 3; n++ {
		added(t, j, memory[n*10:n*10+n])
	}
	if !bytes.Equal(memory, full(60, 1)) {
		t.Error("Add has changed its argument")
	}
	want := [][]byte{full(60, 1)[10:11], full(60, 1)[20:22], full(60, 1)[30:33]}
	overwrite(memory)
	tells(t, "argument changed", j, 9, want, 0)
	flushed(t, j)
	holds(t, "argument changed", d, want)
	overwrite(memory)
	tells(t, "argument changed again", j, 9, want, 3)
	added(t, j, full(70, 2))
	flushed(t, j)
	holds(t, "argument changed again", d, append(want, full(70, 2)))
}

// P9.1, rule 4: what Records tells is its caller's: no answer changes, and no two share memory.
func TestAnswersAreNew(t *testing.T) {
	records := some(3, 70, 8, 1)
	d, one := begun(t, 9, records)
	for what, j := range map[string]*Journal{"begun": one, "opened": opened(t, "answers", d.Cut(nil))} {
		l, m := j.Records(), j.Records()
		for k := range l {
			overwrite(l[k])
			for o := range l {
				if o > k && !bytes.Equal(l[o], records[o]) {
					t.Errorf("%s: records %d and %d share memory", what, k, o)
				}
			}
			l[k] = append(l[k], 1, 2, 3)
		}
		l[0] = nil
		if !same(m, records) {
			t.Errorf("%s: two answers share memory", what)
		}
		tells(t, what, j, 9, records, 4)
		if e := j.Clear(); e != api.OK {
			t.Errorf("%s: Clear: %v", what, e)
		}
		added(t, j, full(200, 7))
		if !same(m, records) {
			t.Errorf("%s: an answer has changed behind Clear", what)
		}
		if e := j.Clear(); e != api.OK {
			t.Errorf("%s: Clear: %v", what, e)
		}
		added(t, j, records...)
		flushed(t, j)
		tells(t, what+", written again", j, 9, records, 4)
	}
	holds(t, "answers", d, records)
}

// P9.1, P2: journals side by side on devices of their own know nothing of each other.
func TestSideBySide(t *testing.T) {
	d, j := begun(t, 4, some(3))
	c, k := begun(t, 6, some(90, 9))
	added(t, j, full(20, 1))
	if e := k.Clear(); e != api.OK {
		t.Errorf("Clear: %v", e)
	}
	tells(t, "one", j, 4, [][]byte{some(3)[0], full(20, 1)}, 1)
	tells(t, "the other", k, 6, nil, 0)
	holds(t, "one", d, some(3))
	holds(t, "the other", c, nil)
	c.Kill()
	flushed(t, j)
	holds(t, "one", d, [][]byte{some(3)[0], full(20, 1)})
}

// P9.1, P9.2: scripts that are chosen, held step by step against a list of records; power goes now and then, behind any write of the last call.
func TestScripts(t *testing.T) {
	for seed := range 150 {
		choose := chooser(seed)
		sectors := []int{1, 2, 5, 11, 40}[seed%5]
		d, j := formatted(t, sectors)
		var records [][]byte
		safe := 0
		for range 60 {
			from := d.Writes()
			was, next := records[:safe], records[:safe]
			switch p := choose(100); {
			case p < 55:
				r := full(1+choose([]int{8, 20, 70, 400}[choose(4)]), choose(1000))
				want := api.OK
				if sectors*64-len(stoodAll(records)) < len(stood(r)) {
					want = api.ErrJourFull
				} else {
					records = append(slices.Clip(records), r)
				}
				if e := j.Add(r); e != want {
					t.Fatalf("Add of %d bytes: %v; want %v", len(r), e, want)
				}
			case p < 80:
				flushed(t, j)
				safe, next = len(records), records
			case p < 88:
				if e := j.Clear(); e != api.OK {
					t.Fatalf("Clear: %v", e)
				}
				records, safe, next = nil, 0, nil
			case p < 92:
				j = opened(t, "a script", d)
				records = records[:safe]
			case p < 94:
				var e api.Errno
				if j, e = Format(d); e != api.OK {
					t.Fatalf("Format: %v", e)
				}
				records, safe, next = nil, 0, nil
			default:
				d.Spoil(choose(sectors))
				if e := j.Clear(); e != api.OK {
					t.Fatalf("Clear: %v", e)
				}
				records, safe, next = nil, 0, nil
			}
			tells(t, "a script", j, sectors, records, safe)
			holds(t, "a script", d, records[:safe])
			if choose(10) == 0 {
				c := d.Cut(nil)
				if wrote := d.Writes() - from; wrote > 0 {
					n := 1 + choose(wrote)
					choices := keeps(n)
					c = d.CutAt(from+n, choices[choose(len(choices))])
				}
				d = c
				opensAs(t, "a script's power", d.Cut(nil), was, next)
				j = opened(t, "a script's power", d)
				records = j.Records()
				safe = len(records)
			}
			if t.Failed() {
				t.Fatalf("seed %d", seed)
			}
		}
	}
}

// P9.2 (J3): power goes behind each write of Flush: what was flushed ahead is there, and of what is new all or nothing.
func TestPowerFlush(t *testing.T) {
	for _, records := range shapes() {
		for _, more := range shapes()[1:] {
			d, j := begun(t, 24, records)
			from := d.Writes()
			added(t, j, more...)
			flushed(t, j)
			both := append(slices.Clone(records), more...)
			seen := map[int]int{}
			cutsBehind(d, from, func(what string, c *device.Device) {
				seen[opensAs(t, "Flush, "+what, c, records, both)]++
			})
			if seen[0] == 0 || seen[1] == 0 {
				t.Errorf("%v and %v: %v", lengths(records), lengths(more), seen)
			}
			opensAs(t, "behind Flush", d.Cut(nil), both)
		}
	}
}

// P9.2 (J3): so it is of records that fill the device, of long ones, of noughts, and of a journal that was opened or cleared ahead.
func TestPowerFlushOthers(t *testing.T) {
	for _, c := range []struct {
		sectors       int
		records, more [][]byte
	}{
		{1, nil, some(56)},
		{1, some(8), some(8, 1, 1)},
		{4, nil, some(248)},
		{4, some(20), some(216)},
		{6, some(56), [][]byte{make([]byte, 100), make([]byte, 1), make([]byte, 64)}},
		{6, some(60), [][]byte{append([]byte{1}, make([]byte, 200)...)}},
		{40, some(60), some(1000, 1000)},
	} {
		d, j := begun(t, c.sectors, some(30))
		if e := j.Clear(); e != api.OK {
			t.Fatalf("Clear: %v", e)
		}
		added(t, j, c.records...)
		flushed(t, j)
		j = opened(t, "ahead", d)
		from := d.Writes()
		added(t, j, c.more...)
		flushed(t, j)
		both := append(slices.Clone(c.records), c.more...)
		cutsBehind(d, from, func(what string, left *device.Device) {
			opensAs(t, "Flush, "+what, left, c.records, both)
		})
		opensAs(t, "behind Flush", d.Cut(nil), both)
	}
}

// P9.2 (J3): a record of MaxRecord bytes and others around it.
func TestPowerFlushLongest(t *testing.T) {
	d, j := begun(t, 140, some(90))
	from := d.Writes()
	more := some(3, 8192, 70)
	added(t, j, more...)
	flushed(t, j)
	both := append(some(90), more...)
	for n := from + 1; n <= d.Writes(); n += 9 {
		for _, keep := range [][]bool{nil, all(n), slices.Repeat([]bool{true, false}, n), slices.Repeat([]bool{false, true}, n), {true}, {false, true}} {
			opensAs(t, "the longest", d.CutAt(n, keep), some(90), both)
		}
	}
	opensAs(t, "the longest, last write not safe", d.CutAt(d.Writes(), nil), some(90))
	opensAs(t, "the longest, last write kept", d.CutAt(d.Writes(), all(d.Writes())), both)
}

// P9.2 (J3): power goes behind each write of Clear: all that were flushed are there, or none; never one that was not.
func TestPowerClear(t *testing.T) {
	for _, records := range shapes() {
		for _, more := range [][][]byte{some(), some(5), some(100, 3)} {
			d, j := begun(t, 24, records)
			from := d.Writes()
			added(t, j, more...)
			if e := j.Clear(); e != api.OK {
				t.Fatalf("Clear: %v", e)
			}
			seen := map[int]int{}
			cutsBehind(d, from, func(what string, c *device.Device) {
				seen[opensAs(t, "Clear, "+what, c, nil, records)]++
			})
			if len(records) > 0 && (seen[0] == 0 || seen[1] == 0) {
				t.Errorf("Clear of %v: %v", lengths(records), seen)
			}
			opensAs(t, "behind Clear", d.Cut(nil), nil)
		}
	}
}

// P9.2 (J3): power goes behind each write of Format over a journal: its records, or none.
func TestPowerFormat(t *testing.T) {
	for _, records := range shapes() {
		d, _ := begun(t, 14, records)
		from := d.Writes()
		if j, e := Format(d); j == nil || e != api.OK {
			t.Fatalf("Format: %v, %v", j, e)
		}
		seen := map[int]int{}
		cutsBehind(d, from, func(what string, c *device.Device) {
			seen[opensAs(t, "Format, "+what, c, nil, records)]++
		})
		if len(records) > 0 && (seen[0] == 0 || seen[1] == 0) {
			t.Errorf("Format over %v: %v", lengths(records), seen)
		}
		opensAs(t, "behind Format", d.Cut(nil), nil)
	}
}

// harmful are bytes behind records that are no record, but would be one, or bring one, if some sectors behind their first one were noughts already.
func harmful() map[string][]byte {
	middle := append(full(100, 1), make([]byte, 150)...)
	dirty := stood(middle)
	dirty[8+180] = 1
	ends := stood(append(full(60, 1), make([]byte, 63)...))
	ends[len(ends)-1] = 1
	long := stood(append(full(120, 2), make([]byte, 300)...))
	for i := 200; i < 420; i += 40 {
		long[i] = 9
	}
	return map[string][]byte{
		"bytes that should be noughts":       dirty,
		"noughts behind it that are none":    ends,
		"many that should be noughts":        long,
		"and a record behind":                append(bytes.Clone(dirty), stoodAll(some(3, 100))...),
		"and records behind, over sectors":   append(bytes.Clone(ends), stoodAll(some(60, 60, 60))...),
		"a record whose head is not there":   append(make([]byte, 64), stoodAll(some(100, 3))...),
		"a record without its second sector": append(stood(full(130, 1))[:64], make([]byte, 64)...),
		"no record at all":                   full(300, 9),
		"nothing":                            nil,
	}
}

// P9.2 (J3): power goes behind each write of Open: the next Open tells what this one would have told.
func TestPowerOpen(t *testing.T) {
	for what, b := range harmful() {
		for _, records := range shapes() {
			d := laid(t, 20, append(stoodAll(records), b...))
			tells(t, what, opened(t, what, d), 20, records, len(records))
			holds(t, what, d, records)
			cutsBehind(d, 0, func(cut string, c *device.Device) {
				opensAs(t, what+", "+cut, c, records)
			})
		}
	}
}

// P9.2 (J3): so it is when power goes again while that next Open is under way.
func TestPowerOpenAgain(t *testing.T) {
	for what, b := range harmful() {
		for _, records := range [][][]byte{some(), some(8), some(40, 30)} {
			d := laid(t, 12, append(stoodAll(records), b...))
			opened(t, what, d)
			cutsBehind(d, 0, func(cut string, c *device.Device) {
				opened(t, what, c)
				for n := range c.Writes() + 1 {
					for _, keep := range [][]bool{nil, all(n), {true}, {false, true, true}, {false, false, true}} {
						opensAs(t, what+", "+cut+", again", c.CutAt(n, keep), records)
					}
				}
			})
		}
	}
}

// P9.2 (J3): what Flush left when power went is opened, and power goes behind each write of that Open: it tells what it would have told.
func TestPowerFlushThenOpen(t *testing.T) {
	for _, records := range [][][]byte{some(), some(30), some(56), some(100, 9)} {
		for _, more := range [][][]byte{some(200), some(5, 90, 1), some(56, 56), some(30, 30, 30)} {
			d, j := begun(t, 12, records)
			from := d.Writes()
			added(t, j, more...)
			flushed(t, j)
			both := append(slices.Clone(records), more...)
			cutsBehind(d, from, func(what string, c *device.Device) {
				kept := c.Cut(nil)
				told := [][][]byte{records, both}[opensAs(t, what, kept, records, both)]
				opened(t, what, c)
				cutsBehind(c, 0, func(again string, left *device.Device) {
					opensAs(t, what+", "+again, left, told)
				})
			})
		}
	}
}

// P9.2 (J3): records that were written ahead and are not safe yet: once Open or Format has written anything, none of them is lost alone.
func TestPowerNotSafeAhead(t *testing.T) {
	records := some(100, 60, 3)
	for what, begin := range map[string]func(d *device.Device) (*Journal, api.Errno){"Open": Open, "Format": Format} {
		d := made(t, 10)
		put(t, d, append(stoodAll(records), full(100, 5)...))
		from := d.Writes()
		if j, e := begin(d); j == nil || e != api.OK {
			t.Fatalf("%s: %v, %v", what, j, e)
		}
		for n := from + 1; n <= d.Writes(); n++ {
			for _, keep := range keeps(n) {
				c := d.CutAt(n, keep)
				if what == "Open" {
					opensAs(t, what, c, records)
				} else {
					opensAs(t, what, c, records, nil)
				}
			}
		}
	}
}

// P9.2 (J3): where somebody else has put the first sector of what is to be flushed, it is not taken for it ahead of its time.
func TestPowerFirstSectorThere(t *testing.T) {
	records, more := some(30), some(100, 90)
	both := append(slices.Clone(records), more...)
	d, j := begun(t, 8, records)
	added(t, j, more...)
	d.Tamper(0, asked(8, both)[:64])
	from := d.Writes()
	flushed(t, j)
	cutsBehind(d, from, func(what string, c *device.Device) {
		opensAs(t, what, c, records, both)
	})
	opensAs(t, "behind Flush", d.Cut(nil), both)
}

// P9.2 (J3): a journal's device that counts moments with another one is left whole at each of them.
func TestPowerMoments(t *testing.T) {
	d, j := begun(t, 9, some(20))
	other := made(t, 2)
	device.Together([]*device.Device{d, other})
	more := some(90, 3, 60)
	added(t, j, more...)
	other.Write(0, full(5, 1))
	flushed(t, j)
	both := append(some(20), more...)
	behindFlush := d.Moment()
	other.Write(1, full(5, 2))
	if e := j.Clear(); e != api.OK {
		t.Fatalf("Clear: %v", e)
	}
	for m := range d.Moment() + 1 {
		for _, keep := range keeps(8) {
			which := opensAs(t, "moment "+strconv.Itoa(m), d.CutMoment(m, keep), some(20), both, nil)
			if m == behindFlush+1 && which != 1 {
				t.Errorf("flushed ahead of another's write, and not there")
			}
			if which == 2 && m <= behindFlush+1 {
				t.Errorf("moment %d: cleared ahead of Clear", m)
			}
		}
	}
}
