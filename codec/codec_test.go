package codec

import (
	"bytes"
	"encoding/binary"
	"math"
	"slices"
	"strconv"
	"testing"

	"cofferdam/api"
)

const writeBytes = 1 + 4 + 64 // of a write in a group

// sizes are those of the fields that are tried one by one.
var sizes = []int{1, 2, 3, 4, 5, 16, 32, 63, 64}

// numbers are such as a sector may hold.
var numbers = []int{0, 1, 2, 127, 128, 255, 256, 257, 65535, 65536, 0x01020304, 1<<24 - 1, 1 << 24, 1<<31 - 2, 1<<31 - 1}

// wrongNumbers are such as no sector holds.
var wrongNumbers = []int{-1, -2, -255, -1 << 31, -1 << 32, math.MinInt, math.MinInt + 1, 1 << 31, 1<<31 + 1, 1<<32 - 1, 1 << 32, 1<<32 + 1, math.MaxInt - 1, math.MaxInt}

// wrongLengths are numbers of bytes that no sector has.
var wrongLengths = []int{0, 1, 2, 4, 32, 62, 63, 65, 66, 68, 127, 128, 256, 4096}

// full is so many bytes, none of them a nought; another seed makes others.
func full(n, seed int) []byte {
	b := make([]byte, n)
	for i := range b {
		b[i] = byte((i*7+seed*31)%255 + 1)
	}
	return b
}

// write is a write of data that its seed makes.
func write(dev, sector, seed int) api.Write {
	return api.Write{Dev: dev, Sector: sector, Data: full(64, seed)}
}

// many is so many writes, on all devices, at sectors of one byte and of two.
func many(n int) []api.Write {
	var l []api.Write
	for i := range n {
		l = append(l, write((i*3+7)%8, (i*211+2047)%2048, i))
	}
	return l
}

// groups are lists of writes that are groups, by name.
func groups() map[string][]api.Write {
	m := map[string][]api.Write{
		"no write":           {},
		"first of all":       {write(0, 0, 1)},
		"last of all":        {write(7, 2047, 2)},
		"noughts":            {{Dev: 3, Sector: 1000, Data: make([]byte, 64)}},
		"all bits":           {{Dev: 7, Sector: 1023, Data: bytes.Repeat([]byte{255}, 64)}},
		"one byte's last":    {write(1, 255, 3)},
		"two bytes' first":   {write(1, 256, 4)},
		"two":                {write(1, 258, 5), write(2, 772, 6)},
		"the other way":      {write(2, 772, 6), write(1, 258, 5)},
		"one sector twice":   {write(4, 5, 7), write(4, 5, 8)},
		"one write twice":    {write(4, 5, 7), write(4, 5, 7)},
		"sectors going down": {write(0, 3, 1), write(0, 2, 2), write(0, 1, 3), write(0, 0, 4)},
	}
	for _, n := range []int{1, 2, 3, 10, 50, 99, 100} {
		m["many: "+strconv.Itoa(n)] = many(n)
	}
	return m
}

// asked is what C1 asks of a group, each number put by another hand.
func asked(l []api.Write) []byte {
	b := binary.BigEndian.AppendUint16(nil, uint16(len(l)))
	for _, w := range l {
		b = append(b, byte(w.Dev))
		b = binary.BigEndian.AppendUint32(b, uint32(w.Sector))
		b = append(b, w.Data...)
	}
	return b
}

// copied is a list of writes in memory of its own.
func copied(l []api.Write) []api.Write {
	m := slices.Clone(l)
	for i := range m {
		m[i].Data = bytes.Clone(m[i].Data)
	}
	return m
}

// same tells whether two lists hold the same writes in the same order.
func same(l, m []api.Write) bool {
	return slices.EqualFunc(l, m, func(v, w api.Write) bool {
		return v.Dev == w.Dev && v.Sector == w.Sector && bytes.Equal(v.Data, w.Data)
	})
}

// madeGroup is what Group tells of a list that is a group.
func madeGroup(t *testing.T, l []api.Write) []byte {
	t.Helper()
	b, e := Group(l)
	if e != api.OK {
		t.Fatalf("Group of %d writes: %v", len(l), e)
	}
	return b
}

// noGroupTold asks that Group refuses a list, tells nothing beside it and leaves it as it is.
func noGroupTold(t *testing.T, what string, l []api.Write) {
	t.Helper()
	held := copied(l)
	if b, e := Group(l); e != api.ErrForm || len(b) != 0 {
		t.Errorf("%s: Group: %d bytes, %v; want none, ErrForm", what, len(b), e)
	}
	if !same(l, held) {
		t.Errorf("%s: Group has changed the list", what)
	}
}

// noWritesTold asks that Ungroup refuses bytes, tells nothing beside it and leaves them as they are.
func noWritesTold(t *testing.T, what string, b []byte) {
	t.Helper()
	held := bytes.Clone(b)
	if l, e := Ungroup(b); e != api.ErrForm || len(l) != 0 {
		t.Errorf("%s: Ungroup: %d writes, %v; want none, ErrForm", what, len(l), e)
	}
	if !bytes.Equal(b, held) {
		t.Errorf("%s: Ungroup has changed the bytes", what)
	}
}

// P8.1 (C1): one write, byte by byte as it is written out here.
func TestGroupWrittenOut(t *testing.T) {
	data := full(64, 1)
	want := append([]byte{0, 2, 5, 0, 0, 1, 2}, data...)
	want = append(want, 7, 0, 0, 7, 255)
	want = append(want, full(64, 2)...)
	b, e := Group([]api.Write{{Dev: 5, Sector: 258, Data: data}, {Dev: 7, Sector: 2047, Data: full(64, 2)}})
	if e != api.OK || !bytes.Equal(b, want) {
		t.Errorf("Group: % x, %v; want % x", b, e, want)
	}
	for _, none := range [][]api.Write{nil, {}} {
		if b, e := Group(none); e != api.OK || !bytes.Equal(b, []byte{0, 0}) {
			t.Errorf("Group of no write: % x, %v; want 00 00", b, e)
		}
	}
}

// P8.1 (C1): each group's bytes against the chapter's words; the list stays as it is.
func TestGroupBytes(t *testing.T) {
	for name, l := range groups() {
		held := copied(l)
		b := madeGroup(t, l)
		if len(b) != 2+len(l)*writeBytes || !bytes.Equal(b, asked(held)) {
			t.Errorf("%s: Group: % x; want % x", name, b, asked(held))
		}
		if !same(l, held) {
			t.Errorf("%s: Group has changed the list", name)
		}
	}
}

// P8.1 (C1): every device and every sector that there may be, and each place of data.
func TestGroupEveryNumber(t *testing.T) {
	for dev := range 8 {
		for sector := range 2048 {
			l := []api.Write{{Dev: dev, Sector: sector, Data: make([]byte, 64)}}
			l[0].Data[(sector+dev)%64] = byte(sector)
			b := madeGroup(t, l)
			if !bytes.Equal(b, asked(l)) {
				t.Fatalf("Group of device %d, sector %d: % x", dev, sector, b)
			}
			if m, e := Ungroup(b); e != api.OK || !same(m, l) {
				t.Fatalf("Ungroup of device %d, sector %d: %v, %v", dev, sector, m, e)
			}
		}
	}
}

// P8.1 (C1): Group of what is no group, alone and first, amid, last among writes that are right.
func TestGroupWrong(t *testing.T) {
	wrong := map[string]api.Write{
		"no data":       {Dev: 1, Sector: 1},
		"empty data":    {Dev: 1, Sector: 1, Data: []byte{}},
		"all wrong":     {Dev: -1, Sector: -1},
		"device 2^8":    write(256, 1, 1),
		"sector 2^32":   write(1, 1<<32, 1),
		"sector's wrap": write(1, 1<<32+5, 1),
	}
	for _, n := range wrongLengths {
		wrong["data of "+strconv.Itoa(n)] = api.Write{Dev: 1, Sector: 1, Data: full(n, 1)}
	}
	for _, n := range []int{-1, -2, -8, 8, 9, 15, 16, 255, 257, 264, 1 << 32, math.MinInt, math.MaxInt} {
		wrong["device "+strconv.Itoa(n)] = write(n, 1, 1)
	}
	for _, n := range []int{-1, -2, -2048, 2048, 2049, 4095, 4096, 65535, 1<<31 - 1, 1 << 31, 1<<32 - 1, math.MinInt, math.MaxInt} {
		wrong["sector "+strconv.Itoa(n)] = write(1, n, 1)
	}
	for what, w := range wrong {
		noGroupTold(t, what, []api.Write{w})
		for i := range 4 {
			noGroupTold(t, what+" at "+strconv.Itoa(i), slices.Insert(many(3), i, w))
		}
		noGroupTold(t, what+" behind 99", append(many(99), w))
	}
}

// P8.1 (C1): 100 writes are a group, more are none.
func TestGroupTooMany(t *testing.T) {
	if b, e := Group(many(100)); e != api.OK || len(b) != 2+100*writeBytes {
		t.Errorf("Group of 100: %d bytes, %v", len(b), e)
	}
	for _, n := range []int{101, 102, 128, 200, 255, 256, 257, 356} {
		noGroupTold(t, strconv.Itoa(n)+" writes", many(n))
	}
	noGroupTold(t, "2^16 writes", make([]api.Write, 1<<16))
	noGroupTold(t, "2^16 writes of one sector", slices.Repeat([]api.Write{write(1, 1, 1)}, 1<<16+1))
}

// P8.2: Ungroup of what Group tells is the list, and Group of that the bytes.
func TestGroupBack(t *testing.T) {
	for name, l := range groups() {
		b := madeGroup(t, l)
		held := bytes.Clone(b)
		m, e := Ungroup(b)
		if e != api.OK || !same(m, l) {
			t.Errorf("%s: Ungroup of the group: %d writes, %v", name, len(m), e)
		}
		if !bytes.Equal(b, held) {
			t.Errorf("%s: Ungroup has changed the bytes", name)
		}
		if again, e := Group(m); e != api.OK || !bytes.Equal(again, held) {
			t.Errorf("%s: Group of what Ungroup tells: %d bytes, %v", name, len(again), e)
		}
	}
}

// P8.1, P8.2: Ungroup of bytes that another hand has made.
func TestUngroupBytes(t *testing.T) {
	for name, l := range groups() {
		b := asked(l)
		m, e := Ungroup(b)
		if e != api.OK || !same(m, l) {
			t.Errorf("%s: Ungroup: %d writes, %v; want %d", name, len(m), e, len(l))
		}
		if again := madeGroup(t, m); !bytes.Equal(again, b) {
			t.Errorf("%s: Group of what Ungroup tells is not the bytes", name)
		}
	}
}

// P8.1 (C1): a group cut at every length is none, nor is one with bytes behind it.
func TestUngroupLengths(t *testing.T) {
	noWritesTold(t, "nil", nil)
	noWritesTold(t, "no byte", []byte{})
	noWritesTold(t, "a nought", []byte{0})
	noWritesTold(t, "a one", []byte{1})
	noWritesTold(t, "a count without its writes", []byte{0, 1})
	noWritesTold(t, "100 without its writes", []byte{0, 100})
	for _, n := range []int{1, 2, 3} {
		b := asked(many(n))
		for i := range b {
			noWritesTold(t, strconv.Itoa(n)+" writes cut at "+strconv.Itoa(i), b[:i:i])
			noWritesTold(t, strconv.Itoa(n)+" writes cut at "+strconv.Itoa(i)+", the rest behind its length", b[:i])
		}
	}
	b := asked(many(100))
	for _, i := range []int{2, len(b) - writeBytes, len(b) - 64, len(b) - 1} {
		noWritesTold(t, "100 writes cut at "+strconv.Itoa(i), b[:i])
	}
	for name, l := range groups() {
		for _, more := range []int{1, 2, 64, writeBytes} {
			noWritesTold(t, name+" and "+strconv.Itoa(more)+" more", append(asked(l), full(more, 1)...))
			noWritesTold(t, name+" and "+strconv.Itoa(more)+" noughts", append(asked(l), make([]byte, more)...))
		}
	}
}

// P8.1 (C1): a count that is not that of the writes behind it, or beyond 100.
func TestUngroupCounts(t *testing.T) {
	for count := range 1 << 16 {
		b := asked(many(2))
		binary.BigEndian.PutUint16(b, uint16(count))
		if count != 2 {
			noWritesTold(t, "count "+strconv.Itoa(count)+" of 2 writes", b)
		}
	}
	for _, n := range []int{101, 102, 200, 255, 256, 1000, 65535} {
		noWritesTold(t, strconv.Itoa(n)+" writes", asked(slices.Repeat(many(1), n)))
	}
	if l, e := Ungroup(asked(many(100))); e != api.OK || len(l) != 100 {
		t.Errorf("Ungroup of 100: %d writes, %v", len(l), e)
	}
}

// P8.1 (C1): devices and sectors that there are not, in each of the writes.
func TestUngroupNumbers(t *testing.T) {
	for i := range 3 {
		at := 2 + i*writeBytes
		for dev := range 256 {
			b := asked(many(3))
			b[at] = byte(dev)
			what := "device " + strconv.Itoa(dev) + " in write " + strconv.Itoa(i)
			if dev > 7 {
				noWritesTold(t, what, b)
			} else if l, e := Ungroup(b); e != api.OK || l[i].Dev != dev {
				t.Errorf("%s: %v, %v", what, l, e)
			}
		}
		for _, sector := range []uint32{0, 1, 255, 256, 2046, 2047, 2048, 2049, 4095, 65535, 65536, 1 << 24, 1<<24 + 5, 1<<31 - 1, 1 << 31, 1<<31 + 5, 1<<32 - 1} {
			b := asked(many(3))
			binary.BigEndian.PutUint32(b[at+1:], sector)
			what := "sector " + strconv.Itoa(int(sector)) + " in write " + strconv.Itoa(i)
			if sector > 2047 {
				noWritesTold(t, what, b)
			} else if l, e := Ungroup(b); e != api.OK || l[i].Sector != int(sector) {
				t.Errorf("%s: %v, %v", what, l, e)
			}
		}
	}
}

// P8.2: with any one bit turned, bytes are no group or another, of which Group tells them.
func TestUngroupBits(t *testing.T) {
	l := many(2)
	for i := range len(asked(l)) * 8 {
		b := asked(l)
		b[i/8] ^= 1 << (i % 8)
		held := bytes.Clone(b)
		m, e := Ungroup(b)
		if e == api.ErrForm && len(m) == 0 {
			continue
		}
		if again, back := Group(m); e != api.OK || same(m, l) || back != api.OK || !bytes.Equal(again, held) {
			t.Errorf("bit %d turned: %d writes, %v; Group of them: %v", i, len(m), e, back)
		}
	}
}

// Rule 4: groups, their writes and their bytes share no memory.
func TestGroupMemory(t *testing.T) {
	l := many(3)
	want := asked(l)
	b := madeGroup(t, l)
	for i := range l {
		clear(l[i].Data)
		l[i].Dev, l[i].Sector = 0, 0
	}
	if !bytes.Equal(b, want) {
		t.Error("a group hangs on the list's memory")
	}
	m, _ := Ungroup(b)
	n, _ := Ungroup(b)
	clear(b)
	if !same(m, many(3)) {
		t.Error("writes hang on the bytes' memory")
	}
	for i := range m {
		grown := append(m[i].Data, full(200, 9)...)
		clear(grown)
		clear(m[i].Data)
		if !same(m[i+1:], many(3)[i+1:]) {
			t.Errorf("the data of write %d reach into those behind it", i)
		}
	}
	if !same(n, many(3)) {
		t.Error("two answers share memory")
	}
}

// Rule 4: what lies behind a list's length is neither read nor written.
func TestGroupBehindLength(t *testing.T) {
	room := many(5)
	room[2].Data = room[2].Data[:64:64]
	b := madeGroup(t, room[:2])
	if !bytes.Equal(b, asked(many(2))) || !same(room, many(5)) {
		t.Error("Group reads or writes behind the list's length")
	}
	long := full(128, 3)
	if b := madeGroup(t, []api.Write{{Data: long[:64]}}); !bytes.Equal(b[7:], full(64, 3)) {
		t.Error("Group reads behind the data's length")
	}
	if !bytes.Equal(long, full(128, 3)) {
		t.Error("Group writes behind the data's length")
	}
	noGroupTold(t, "63 bytes, and more behind their length", []api.Write{{Data: long[:63]}})
}

// sectors are some that fields are taken of.
func sectors() [][]byte {
	return [][]byte{make([]byte, 64), bytes.Repeat([]byte{255}, 64), full(64, 1), full(64, 77)}
}

// P8.1 (C2): each field of each size is its bytes, and there are no more than lie within the sector.
func TestField(t *testing.T) {
	for _, sector := range sectors() {
		held := bytes.Clone(sector)
		for size := 1; size <= 64; size++ {
			for i := -3; i < 70; i++ {
				f, e := Field(sector, i, size)
				if i < 0 || i*size+size > 64 {
					if e != api.ErrForm || len(f) != 0 {
						t.Errorf("Field(%d, %d): % x, %v; want ErrForm", i, size, f, e)
					}
				} else if e != api.OK || !bytes.Equal(f, held[i*size:i*size+size]) {
					t.Errorf("Field(%d, %d): % x, %v; want % x", i, size, f, e, held[i*size:i*size+size])
				}
			}
		}
		if !bytes.Equal(sector, held) {
			t.Error("Field has changed the sector")
		}
	}
}

// P8.1 (C2): how many fields of a size a sector has, written out.
func TestFieldCounts(t *testing.T) {
	for size, count := range map[int]int{1: 64, 2: 32, 3: 21, 4: 16, 5: 12, 16: 4, 21: 3, 22: 2, 31: 2, 32: 2, 33: 1, 63: 1, 64: 1} {
		b := full(64, 3)
		if f, e := Field(b, count-1, size); e != api.OK || len(f) != size {
			t.Errorf("Field(%d, %d): % x, %v", count-1, size, f, e)
		}
		if s, e := SetField(b, count-1, full(size, 4)); e != api.OK || len(s) != 64 {
			t.Errorf("SetField(%d) of %d bytes: % x, %v", count-1, size, s, e)
		}
		if f, e := Field(b, count, size); e != api.ErrForm || len(f) != 0 {
			t.Errorf("Field(%d, %d): % x, %v; want ErrForm", count, size, f, e)
		}
		if s, e := SetField(b, count, full(size, 4)); e != api.ErrForm || len(s) != 0 {
			t.Errorf("SetField(%d) of %d bytes: % x, %v; want ErrForm", count, size, s, e)
		}
	}
}

// wrongPlaces are numbers of fields that no sector has, some of which, times a size, wrap round to such as it has.
var wrongPlaces = []int{-1, -2, -16, -64, 64, 65, 128, 1 << 31, 1 << 32, 1 << 58, 1 << 60, 1 << 61, 1 << 62, 1<<62 + 1, 1<<60 + 1, 1<<59 + 1, 1<<58 + 1, math.MaxInt - 1, math.MaxInt, math.MinInt, math.MinInt + 1, -1 << 62, -1 << 60, -1 << 58}

// noField asks that a field is neither told nor set.
func noField(t *testing.T, b []byte, i, size int) {
	t.Helper()
	held := bytes.Clone(b)
	if f, e := Field(b, i, size); e != api.ErrForm || len(f) != 0 {
		t.Errorf("Field(%d, %d) of %d bytes: % x, %v; want ErrForm", i, size, len(b), f, e)
	}
	if size >= 0 && size < 1<<16 {
		if s, e := SetField(b, i, full(size, 5)); e != api.ErrForm || len(s) != 0 {
			t.Errorf("SetField(%d) with %d bytes of %d: % x, %v; want ErrForm", i, size, len(b), s, e)
		}
	}
	if !bytes.Equal(b, held) {
		t.Errorf("field %d of size %d: the sector was changed", i, size)
	}
}

// P8.1 (C2): wrong places, wrong sizes, wrong sectors.
func TestFieldWrong(t *testing.T) {
	for _, i := range wrongPlaces {
		for size := 1; size <= 64; size++ {
			noField(t, full(64, 1), i, size)
		}
	}
	for _, size := range []int{0, -1, -2, -4, -64, 65, 66, 127, 128, 1 << 31, 1 << 32, math.MinInt, math.MinInt + 1, math.MaxInt - 1, math.MaxInt} {
		for _, i := range append([]int{0, 1, 2, 63}, wrongPlaces...) {
			noField(t, full(64, 1), i, size)
		}
	}
	for _, n := range wrongLengths {
		for _, size := range sizes {
			noField(t, full(n, 1), 0, size)
			noField(t, full(n, 1), 1, size)
			noField(t, full(n, 1), -1, size)
		}
		noField(t, full(n, 1), 0, 0)
		noField(t, full(n, 1), 0, n)
	}
	noField(t, nil, 0, 0)
	noField(t, nil, 0, 1)
	noField(t, nil, 0, 64)
	if s, e := SetField(full(64, 1), 0, nil); e != api.ErrForm || len(s) != 0 {
		t.Errorf("SetField of nil: % x, %v; want ErrForm", s, e)
	}
	noField(t, full(128, 1)[:63], 0, 4)
	noField(t, full(128, 1)[:65], 0, 4)
}

// P8.3: a field that is set is read as it was set, all others as before, and the rest of the sector stays.
func TestFieldsApart(t *testing.T) {
	for _, sector := range sectors() {
		held := bytes.Clone(sector)
		for _, size := range sizes {
			for i := range 64 / size {
				f := full(size, i+size)
				s, e := SetField(sector, i, f)
				if e != api.OK || len(s) != 64 {
					t.Fatalf("SetField(%d) of %d bytes: %d bytes, %v", i, size, len(s), e)
				}
				want := slices.Concat(held[:i*size], f, held[i*size+size:])
				if !bytes.Equal(s, want) {
					t.Errorf("SetField(%d) of %d bytes: % x; want % x", i, size, s, want)
				}
				apart(t, held, s, i, f)
			}
		}
		if !bytes.Equal(sector, held) {
			t.Error("SetField has changed the sector")
		}
	}
}

// apart asks that of two sectors the second holds f in its i-th field, and what the first holds in all others.
func apart(t *testing.T, ahead, behind []byte, i int, f []byte) {
	t.Helper()
	for j := range 64 / len(f) {
		want, _ := Field(ahead, j, len(f))
		if j == i {
			want = f
		}
		if got, e := Field(behind, j, len(f)); e != api.OK || !bytes.Equal(got, want) {
			t.Errorf("field %d of size %d set: field %d is % x, %v; want % x", i, len(f), j, got, e, want)
		}
	}
}

// P8.3: all fields of a size set one behind the other, in two orders; and one set twice.
func TestFieldsAll(t *testing.T) {
	for _, size := range sizes {
		up, down := full(64, 50), full(64, 50)
		count := 64 / size
		for i := range count {
			up, _ = SetField(up, i, full(size, i+1))
			down, _ = SetField(down, count-1-i, full(size, 90))
			down, _ = SetField(down, count-1-i, full(size, count-i))
		}
		var want []byte
		for i := range count {
			want = append(want, full(size, i+1)...)
		}
		want = append(want, full(64, 50)[count*size:]...)
		if !bytes.Equal(up, want) || !bytes.Equal(down, want) {
			t.Errorf("all fields of size %d: % x and % x; want % x", size, up, down, want)
		}
	}
}

// P8.1 (C2), P8.3: numbers at every place: their bytes, told again, all others as before.
func TestNumbers(t *testing.T) {
	held := bytes.Repeat([]byte{1, 2, 3, 4}, 16)
	for i := range 16 {
		for _, n := range numbers {
			s, e := SetNumber(held, i, n)
			want := bytes.Repeat([]byte{1, 2, 3, 4}, 16)
			binary.BigEndian.PutUint32(want[i*4:], uint32(n))
			if e != api.OK || !bytes.Equal(s, want) {
				t.Errorf("SetNumber(%d, %d): % x, %v; want % x", i, n, s, e, want)
			}
			for j := range 16 {
				told := 0x01020304
				if j == i {
					told = n
				}
				if m, e := Number(s, j); e != api.OK || m != told {
					t.Errorf("SetNumber(%d, %d): Number(%d) is %d, %v; want %d", i, n, j, m, e, told)
				}
			}
		}
	}
	if !bytes.Equal(held, bytes.Repeat([]byte{1, 2, 3, 4}, 16)) {
		t.Error("SetNumber has changed the sector")
	}
}

// P8.1 (C2): the numbers that the chapter names, byte by byte.
func TestNumberWrittenOut(t *testing.T) {
	for n, want := range map[int][]byte{0: {0, 0, 0, 0}, 1: {0, 0, 0, 1}, 255: {0, 0, 0, 255}, 256: {0, 0, 1, 0}, 1<<31 - 1: {127, 255, 255, 255}} {
		for i := range 16 {
			s, e := SetNumber(full(64, 9), i, n)
			if e != api.OK || !bytes.Equal(s[4*i:4*i+4], want) {
				t.Errorf("SetNumber(%d, %d): % x, %v", i, n, s, e)
			}
			b := full(64, 9)
			copy(b[4*i:], want)
			if m, e := Number(b, i); e != api.OK || m != n {
				t.Errorf("Number(%d): %d, %v; want %d", i, m, e, n)
			}
		}
	}
}

// P8.1 (C2): numbers out of their bounds, in SetNumber and in the sector that Number is told of.
func TestNumberWrong(t *testing.T) {
	for _, n := range wrongNumbers {
		for _, i := range []int{0, 1, 15, 16, -1} {
			b := full(64, 2)
			if s, e := SetNumber(b, i, n); e != api.ErrForm || len(s) != 0 {
				t.Errorf("SetNumber(%d, %d): % x, %v; want ErrForm", i, n, s, e)
			}
			if !bytes.Equal(b, full(64, 2)) {
				t.Errorf("SetNumber(%d, %d) has changed the sector", i, n)
			}
		}
	}
	for i := range 16 {
		for _, field := range []uint32{1 << 31, 1<<31 + 1, 1<<31 | 1<<16, 1<<32 - 2, 1<<32 - 1} {
			b := make([]byte, 64)
			binary.BigEndian.PutUint32(b[4*i:], field)
			for j := range 16 {
				n, e := Number(b, j)
				if j == i && (e != api.ErrForm || n != 0) || j != i && (e != api.OK || n != 0) {
					t.Errorf("%d at place %d: Number(%d): %d, %v", field, i, j, n, e)
				}
			}
			s, e := SetNumber(b, i, 5)
			if n, told := Number(s, i); e != api.OK || told != api.OK || n != 5 {
				t.Errorf("SetNumber over %d: %v; Number: %d, %v", field, e, n, told)
			}
		}
	}
}

// P8.1 (C2): numbers where there is no such field, and of what is no sector.
func TestNumberPlaces(t *testing.T) {
	noNumber := func(b []byte, i int) {
		t.Helper()
		if n, e := Number(b, i); e != api.ErrForm || n != 0 {
			t.Errorf("Number(%d) of %d bytes: %d, %v; want ErrForm", i, len(b), n, e)
		}
		if s, e := SetNumber(b, i, 7); e != api.ErrForm || len(s) != 0 {
			t.Errorf("SetNumber(%d) of %d bytes: % x, %v; want ErrForm", i, len(b), s, e)
		}
	}
	for _, i := range append([]int{16, 17, 31, 32, 63}, wrongPlaces...) {
		noNumber(make([]byte, 64), i)
	}
	for _, n := range wrongLengths {
		noNumber(make([]byte, n), 0)
		noNumber(make([]byte, n), 1)
		noNumber(make([]byte, n), 15)
		noNumber(make([]byte, n), 16)
	}
	noNumber(nil, 0)
	noNumber(make([]byte, 128)[:63], 0)
	noNumber(make([]byte, 128)[:65], 0)
}

// Rule 4: fields and sectors share no memory, even if the field that is set lies in the sector itself.
func TestFieldMemory(t *testing.T) {
	b, f := full(64, 1), full(16, 2)
	got, _ := Field(b, 1, 16)
	set, _ := SetField(b, 1, f)
	number, _ := SetNumber(b, 3, 5)
	wantSet := slices.Concat(full(64, 1)[:16], full(16, 2), full(64, 1)[32:])
	wantNumber := slices.Concat(full(64, 1)[:12], []byte{0, 0, 0, 5}, full(64, 1)[16:])
	clear(b)
	clear(f)
	if !bytes.Equal(got, full(64, 1)[16:32]) || !bytes.Equal(set, wantSet) || !bytes.Equal(number, wantNumber) {
		t.Error("an answer hangs on the memory of an argument")
	}
	b, f = full(64, 1), full(16, 2)
	for range 2 {
		got, _ = Field(b, 0, 64)
		set, _ = SetField(b, 1, f)
		number, _ = SetNumber(b, 3, 5)
		for _, answer := range [][]byte{got, set, number} {
			clear(append(answer, 1, 2, 3)[:64])
			clear(answer)
		}
		if !bytes.Equal(b, full(64, 1)) || !bytes.Equal(f, full(16, 2)) {
			t.Error("an argument hangs on the memory of an answer")
		}
	}
	own, e := SetField(b, 0, b[8:24])
	if want := slices.Concat(full(64, 1)[8:24], full(64, 1)[16:]); e != api.OK || !bytes.Equal(own, want) || !bytes.Equal(b, full(64, 1)) {
		t.Errorf("SetField of the sector's own bytes: % x, %v; want % x", own, e, want)
	}
}

// Rule 4: what lies behind a sector's length, or a field's, is neither read nor written.
func TestFieldBehindLength(t *testing.T) {
	room, roomy := full(128, 1), full(64, 2)
	set, e := SetField(room[:64], 1, roomy[:16])
	want := slices.Concat(full(64, 1)[:16], full(64, 2)[:16], full(64, 1)[32:])
	if e != api.OK || !bytes.Equal(set, want) {
		t.Errorf("SetField: % x, %v; want % x", set, e, want)
	}
	if f, e := Field(room[:64], 0, 64); e != api.OK || !bytes.Equal(f, full(64, 1)) {
		t.Errorf("Field: % x, %v", f, e)
	}
	if !bytes.Equal(room, full(128, 1)) || !bytes.Equal(roomy, full(64, 2)) {
		t.Error("something was written behind a length")
	}
}

// P2: the same arguments are answered the same, whatever was asked ahead of them.
func TestSameAgain(t *testing.T) {
	ask := func() ([]byte, []api.Write, []byte, []byte, int) {
		b, _ := Group(many(4))
		l, _ := Ungroup(b)
		f, _ := Field(full(64, 1), 2, 5)
		s, _ := SetField(full(64, 1), 2, full(5, 3))
		n, _ := Number(s, 4)
		return b, l, f, s, n
	}
	b, l, f, s, n := ask()
	noGroupTold(t, "data of 63 bytes", []api.Write{{Data: full(63, 1)}})
	noWritesTold(t, "a nought", []byte{0})
	noField(t, full(64, 1), 64, 1)
	b2, l2, f2, s2, n2 := ask()
	if !bytes.Equal(b, b2) || !same(l, l2) || !bytes.Equal(f, f2) || !bytes.Equal(s, s2) || n != n2 {
		t.Error("an answer hangs on what was asked ahead of it")
	}
}

// Ways: only what is no group is told as ErrForm; any other panic goes on.
func TestTried(t *testing.T) {
	if e := tried(func() {}); e != api.OK {
		t.Errorf("work that is done: %v", e)
	}
	if e := tried(func() { panic(noGroup{}) }); e != api.ErrForm {
		t.Errorf("work that gives up: %v", e)
	}
	defer func() {
		if fault := recover(); fault != "another" {
			t.Errorf("another panic: %v", fault)
		}
	}()
	t.Errorf("another panic was told as %v", tried(func() { panic("another") }))
}
