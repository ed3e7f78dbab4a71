package wire_test

import (
	"encoding/binary"
	"math"
	"math/rand"
	"reflect"
	"slices"
	"strconv"
	"strings"
	"testing"

	"dateline/api"
	"dateline/source"
	"dateline/table"
	"dateline/wire"
)

// The first and the last second of years from MinYear to MaxYear.
const (
	firstTime = -62135596800
	lastTime  = 253402300799
)

var (
	a = api.Local{Shift: 3600, Name: "A"}
	b = api.Local{Shift: 7200, Save: 3600, Name: "BST"}
	c = api.Local{Shift: -75600, Name: "-21"}
)

// Parts of texts: two bytes, and a kind, by the words of the document.
func two(n int) string { return string([]byte{byte(n), byte(n >> 8)}) }

func kind(shift, save int, name string) string {
	n := shift + 100000
	return string([]byte{byte(n), byte(n >> 8), byte(n >> 16)}) + two(save) + string([]byte{byte(len(name))}) + name
}

func change(at, which int) string {
	return string(binary.LittleEndian.AppendUint64(nil, uint64(at+1<<38))[:5]) + two(which)
}

// Kinds of a, b and c.
var kindA, kindB, kindC = kind(3600, 0, "A"), kind(7200, 3600, "BST"), kind(-75600, 0, "-21")

func sameTable(t, u api.Table) bool {
	return t.First == u.First && slices.Equal(t.Changes, u.Changes)
}

// checkBytes: a table has just these bytes, to and fro.
func checkBytes(t *testing.T, l api.Table, want string) {
	t.Helper()
	if s, e := wire.Encode(l); s != want || e != api.OK {
		t.Errorf("Encode(%v) = %q, %d; want %q", l, s, e, want)
	}
	if got, e := wire.Decode(want); !sameTable(got, l) || e != api.OK {
		t.Errorf("Decode(%q) = %v, %d; want %v", want, got, e, l)
	}
}

// checkNone: there is no table that has these bytes.
func checkNone(t *testing.T, what, s string) {
	t.Helper()
	if l, e := wire.Decode(s); l.First != (api.Local{}) || len(l.Changes) != 0 || e != api.ErrForm {
		t.Errorf("%s: Decode(%q) = %v, %d; want ErrForm", what, s, l, e)
	}
}

// I1: bytes written out by hand.
func TestBytesByHand(t *testing.T) {
	checkBytes(t, api.Table{First: a}, "\x01\x00"+"\xb0\x94\x01\x00\x00\x01A"+"\x00\x00"+"\x00\x00")
	checkBytes(t, api.Table{First: api.Local{Name: "UTC"}, Changes: []api.Change{{At: 0, Local: b}, {At: 258, Local: api.Local{Name: "UTC"}}}},
		"\x02\x00"+"\xa0\x86\x01\x00\x00\x03UTC"+"\xc0\xa2\x01\x10\x0e\x03BST"+"\x00\x00"+"\x02\x00"+
			"\x00\x00\x00\x00\x40\x01\x00"+"\x02\x01\x00\x00\x40\x00\x00")
	checkBytes(t, api.Table{First: c, Changes: []api.Change{{At: -1, Local: a}}},
		"\x02\x00"+"\x50\x5f\x00\x00\x00\x03-21"+"\xb0\x94\x01\x00\x00\x01A"+"\x00\x00"+"\x01\x00"+"\xff\xff\xff\xff\x3f\x01\x00")
}

// I1: kinds stand in the order in which they first stand in the table, each once.
func TestKinds(t *testing.T) {
	for _, x := range []struct {
		l    api.Table
		want string
	}{
		{api.Table{First: b}, two(1) + kindB + two(0) + two(0)},
		{api.Table{First: a, Changes: []api.Change{{At: 1, Local: b}, {At: 2, Local: a}, {At: 3, Local: b}}}, two(2) + kindA + kindB + two(0) + two(3) + change(1, 1) + change(2, 0) + change(3, 1)},
		{api.Table{First: c, Changes: []api.Change{{At: 1, Local: b}, {At: 2, Local: a}, {At: 3, Local: c}, {At: 4, Local: a}}}, two(3) + kindC + kindB + kindA + two(0) + two(4) + change(1, 1) + change(2, 2) + change(3, 0) + change(4, 2)},
		// What differs by its name alone, by what is saved alone, by its shift alone, is another kind.
		{
			api.Table{First: a, Changes: []api.Change{{At: 1, Local: api.Local{Shift: 3600, Name: "a"}}, {At: 2, Local: api.Local{Shift: 3600, Save: 1, Name: "a"}}, {At: 3, Local: api.Local{Shift: 3601, Save: 1, Name: "a"}}, {At: 4, Local: a}}},
			two(4) + kindA + kind(3600, 0, "a") + kind(3600, 1, "a") + kind(3601, 1, "a") + two(0) + two(4) + change(1, 1) + change(2, 2) + change(3, 3) + change(4, 0),
		},
	} {
		checkBytes(t, x.l, x.want)
	}
}

// I1: the least and the greatest numbers that may stand there.
func TestEdges(t *testing.T) {
	n24 := strings.Repeat("n", 24)
	for _, x := range []api.Local{
		{Shift: -75600, Name: "A"}, {Shift: 75600, Name: "A"}, {Shift: -1, Name: "A"}, {Name: "A"},
		{Save: 1, Name: "A"}, {Save: 255, Name: "A"}, {Save: 256, Name: "A"}, {Save: 10800, Name: "A"}, {Shift: 75600, Save: 10800, Name: n24}, {Name: "+"},
	} {
		checkBytes(t, api.Table{First: x}, two(1)+kind(x.Shift, x.Save, x.Name)+two(0)+two(0))
	}
	for _, at := range []int{firstTime, firstTime + 1, -1 << 32, -1, 0, 1, 255, 256, 1<<32 - 1, 1 << 32, lastTime - 1, lastTime} {
		checkBytes(t, api.Table{First: a, Changes: []api.Change{{At: at, Local: b}}}, two(2)+kindA+kindB+two(0)+two(1)+change(at, 1))
	}
}

// many changes, each of a kind of its own, and their bytes.
func many(changes int) (api.Table, string) {
	t := api.Table{First: api.Local{Name: "K"}}
	var kinds, rest strings.Builder
	kinds.WriteString(two(changes+1) + kind(0, 0, "K"))
	rest.WriteString(two(0) + two(changes))
	for i := 1; i <= changes; i++ {
		t.Changes = append(t.Changes, api.Change{At: 1000 * i, Local: api.Local{Shift: i, Save: i, Name: "K" + strconv.Itoa(i)}})
		kinds.WriteString(kind(i, i, "K"+strconv.Itoa(i)))
		rest.WriteString(change(1000*i, i))
	}
	return t, kinds.String() + rest.String()
}

// I1: as many changes, and kinds, as there may be, and one more.
func TestMany(t *testing.T) {
	for _, n := range []int{254, 255, 256, 1000} {
		l, s := many(n)
		checkBytes(t, l, s)
	}
	l, s := many(1001)
	if got, e := wire.Encode(l); got != "" || e != api.ErrMany {
		t.Errorf("Encode of 1001 changes: %q, %d", got, e)
	}
	checkNone(t, "1001 changes", s)
	checkNone(t, "65535 kinds", two(65535)+strings.Repeat(kindA, 65535)+two(0)+two(0))
	checkNone(t, "65535 changes", two(2)+kindA+kindB+two(0)+two(65535)+strings.Repeat(change(1, 1)+change(2, 0), 32768))
	checkNone(t, "far too long", two(1)+kindA+two(0)+two(0)+strings.Repeat("\x00", 1<<24))
}

// I1, P1: the errors of Encode are those of Check, in its order.
func TestErrorsOfEncode(t *testing.T) {
	far := api.Local{Shift: 75601, Name: "A"}
	for _, x := range []struct {
		name string
		l    api.Table
		want api.Errno
	}{
		{"nothing", api.Table{}, api.ErrForm},
		{"too many", api.Table{First: far, Changes: make([]api.Change, 1001)}, api.ErrMany},
		{"too far", api.Table{First: far, Changes: make([]api.Change, 3)}, api.ErrRange},
		{"too far behind", api.Table{First: api.Local{Shift: -75601, Name: "A"}}, api.ErrRange},
		{"farther than any", api.Table{First: api.Local{Shift: math.MaxInt, Name: "A"}}, api.ErrRange},
		{"too much saved", api.Table{First: api.Local{Save: 10801, Name: "A"}}, api.ErrRange},
		{"less than nothing saved", api.Table{First: api.Local{Save: -1, Name: "A"}}, api.ErrRange},
		{"no name", api.Table{First: api.Local{}}, api.ErrForm},
		{"too long a name", api.Table{First: api.Local{Name: strings.Repeat("n", 25)}}, api.ErrForm},
		{"a name longer than a byte tells", api.Table{First: api.Local{Name: strings.Repeat("n", 257)}}, api.ErrForm},
		{"another sign", api.Table{First: api.Local{Name: "a b"}}, api.ErrForm},
		{"at no time", api.Table{First: a, Changes: []api.Change{{At: lastTime + 1, Local: a}}}, api.ErrRange},
		{"ahead of all times", api.Table{First: a, Changes: []api.Change{{At: math.MinInt, Local: b}}}, api.ErrRange},
		{"to what it is", api.Table{First: a, Changes: []api.Change{{At: 1, Local: a}}}, api.ErrState},
		{"not rising", api.Table{First: a, Changes: []api.Change{{At: 1, Local: b}, {At: 1, Local: c}}}, api.ErrState},
		{"a change that is wrong", api.Table{First: a, Changes: []api.Change{{At: 1, Local: b}, {At: 2, Local: far}}}, api.ErrRange},
	} {
		if s, e := wire.Encode(x.l); s != "" || e != x.want {
			t.Errorf("%s: %q, %d; want %d", x.name, s, e, x.want)
		}
	}
}

// I1, I2: bytes that can be read, but that no table has.
func TestNoTable(t *testing.T) {
	n25 := strings.Repeat("n", 25)
	for _, x := range []struct{ name, s string }{
		{"nothing", ""},
		{"no kinds", two(0) + two(0) + two(0)},
		{"a kind that nothing is", two(2) + kindA + kindB + two(0) + two(0)},
		{"a kind that nothing is, behind others", two(3) + kindA + kindB + kindC + two(0) + two(1) + change(1, 1)},
		{"First is not 0", two(2) + kindA + kindB + two(1) + two(0)},
		{"First is not 0, and both are", two(2) + kindA + kindB + two(1) + two(1) + change(1, 0)},
		{"kinds in another order", two(3) + kindA + kindC + kindB + two(0) + two(2) + change(1, 2) + change(2, 1)},
		{"a kind twice", two(2) + kindA + kindA + two(0) + two(1) + change(1, 1)},
		{"a kind twice, of three", two(3) + kindA + kindB + kindA + two(0) + two(2) + change(1, 1) + change(2, 2)},
		{"First is a kind that is none", two(1) + kindA + two(1) + two(0)},
		{"First is a kind far behind", two(1) + kindA + two(65535) + two(0)},
		{"a change of a kind that is none", two(2) + kindA + kindB + two(0) + two(1) + change(1, 2)},
		{"a change of a kind far behind", two(2) + kindA + kindB + two(0) + two(2) + change(1, 1) + change(2, 65535)},
		{"a byte behind", two(1) + kindA + two(0) + two(0) + "\x00"},
		{"a change behind", two(2) + kindA + kindB + two(0) + two(1) + change(1, 1) + change(2, 0)},
		{"a change too few", two(2) + kindA + kindB + two(0) + two(2) + change(1, 1)},
		{"a kind too few", two(2) + kindA + two(0) + two(0)},
		{"a table behind a table", strings.Repeat(two(1)+kindA+two(0)+two(0), 2)},
		{"more first", "\x00\x01" + kindA + two(0) + two(0)},
		{"too far", two(1) + kind(75601, 0, "A") + two(0) + two(0)},
		{"too far behind", two(1) + kind(-75601, 0, "A") + two(0) + two(0)},
		{"farthest", two(1) + "\xff\xff\xff\x00\x00\x01A" + two(0) + two(0)},
		{"farthest behind", two(1) + "\x00\x00\x00\x00\x00\x01A" + two(0) + two(0)},
		{"too much saved", two(1) + kind(0, 10801, "A") + two(0) + two(0)},
		{"most saved", two(1) + kind(0, 65535, "A") + two(0) + two(0)},
		{"no name", two(1) + kind(0, 0, "") + two(0) + two(0)},
		{"too long a name", two(1) + kind(0, 0, n25) + two(0) + two(0)},
		{"the longest name", two(1) + kind(0, 0, strings.Repeat("n", 255)) + two(0) + two(0)},
		{"a name longer than there are bytes", two(1) + "\xa0\x86\x01\x00\x00\xffA" + two(0) + two(0)},
		{"another sign", two(1) + kind(0, 0, "a_b") + two(0) + two(0)},
		{"a sign beyond letters", two(1) + kind(0, 0, "\xe9") + two(0) + two(0)},
		{"ahead of the first time", two(2) + kindA + kindB + two(0) + two(1) + change(firstTime-1, 1)},
		{"behind the last time", two(2) + kindA + kindB + two(0) + two(1) + change(lastTime+1, 1)},
		{"the least time", two(2) + kindA + kindB + two(0) + two(1) + "\x00\x00\x00\x00\x00" + two(1)},
		{"the greatest time", two(2) + kindA + kindB + two(0) + two(1) + "\xff\xff\xff\xff\xff" + two(1)},
		{"at one time", two(2) + kindA + kindB + two(0) + two(2) + change(1, 1) + change(1, 0)},
		{"not rising", two(2) + kindA + kindB + two(0) + two(2) + change(2, 1) + change(1, 0)},
		{"to First", two(1) + kindA + two(0) + two(1) + change(1, 0)},
		{"to what it is", two(2) + kindA + kindB + two(0) + two(2) + change(1, 1) + change(2, 1)},
		{"but how many", "\xff\xff"},
		{"a text", "Zone Here/Town 0:10 - LMT\n"},
	} {
		checkNone(t, x.name, x.s)
	}
}

// I1: bytes that end early.
func TestEndsEarly(t *testing.T) {
	l, s := many(3)
	checkBytes(t, l, s)
	for n := range len(s) {
		checkNone(t, "the first "+strconv.Itoa(n), s[:n])
	}
	for n := 1; n < len(s); n++ {
		checkNone(t, "without the first "+strconv.Itoa(n), s[n:])
	}
}

func drawTable(r *rand.Rand) api.Table {
	locals := []api.Local{a, b, c}
	for range r.Intn(6) {
		locals = append(locals, api.Local{Shift: r.Intn(151201) - 75600, Save: r.Intn(10801), Name: strings.Repeat("n", 1+r.Intn(24))})
	}
	t := api.Table{First: locals[r.Intn(len(locals))]}
	last, at := t.First, firstTime
	for range r.Intn(12) {
		at += 1 + r.Intn((lastTime-firstTime)/13)
		if l := locals[r.Intn(len(locals))]; l != last {
			t.Changes = append(t.Changes, api.Change{At: at, Local: l})
			last = l
		}
	}
	return t
}

// spoil a text somewhere: another byte, one less, one more.
func spoil(r *rand.Rand, s string) string {
	i := r.Intn(len(s))
	switch r.Intn(4) {
	case 0:
		return s[:i] + s[i+1:]
	case 1:
		return s[:i] + string([]byte{byte(r.Intn(256))}) + s[i:]
	case 2:
		return s[:i] + string([]byte{byte(r.Intn(4))}) + s[i+1:]
	}
	return s[:i] + string([]byte{s[i] ^ 1<<r.Intn(8)}) + s[i+1:]
}

// I2: what is encoded is decoded as it was, and what else is decoded is encoded as it was.
func TestToAndFro(t *testing.T) {
	r := rand.New(rand.NewSource(14))
	read, none := 0, 0
	for range 4000 {
		l := drawTable(r)
		s, e := wire.Encode(l)
		if got, f := wire.Decode(s); !sameTable(got, l) || e != api.OK || f != api.OK {
			t.Fatalf("Decode(Encode(%v)) = %v, %d, %d", l, got, e, f)
		}
		for range 10 {
			s := spoil(r, s)
			got, e := wire.Decode(s)
			if e != api.OK {
				checkNone(t, "spoilt", s)
				none++
				continue
			}
			read++
			if again, f := wire.Encode(got); table.Check(got) != api.OK || again != s || f != api.OK {
				t.Fatalf("Encode(Decode(%q)) = %q, %d", s, again, f)
			}
		}
	}
	if read == 0 || none == 0 {
		t.Errorf("spoilt texts: %d are tables, %d are none", read, none)
	}
}

// P1: any bytes at all.
func TestAnyBytes(t *testing.T) {
	r := rand.New(rand.NewSource(15))
	for range 20000 {
		bytes := make([]byte, r.Intn(40))
		for i := range bytes {
			bytes[i] = byte(r.Intn(1 + r.Intn(256)))
		}
		s := string(bytes)
		if l, e := wire.Decode(s); e != api.OK {
			checkNone(t, "any", s)
		} else if again, _ := wire.Encode(l); again != s {
			t.Errorf("Encode(Decode(%q)) = %q", s, again)
		}
	}
}

// I2: the tables of the document's example and of another source.
func TestTablesOfZones(t *testing.T) {
	s, _, _ := source.Parse("Rule eu 1981 max Mar lastSun 1:00u 1:00 S\nRule eu 1996 max Oct lastSun 1:00u 0 -\n" +
		"Zone Here/Town 0:10 - LMT 1880 Jan 1 0\n  1:00 eu CE%sT\nZone There -3:30 1:00 X/Y 1950 Jun 15 2:00u\n -3:30 - Z\nLink Here/Town Old\n")
	for name, kinds := range map[string]int{"Old": 3, "There": 2} {
		l, _ := table.Compile(s, name)
		bytes, e := wire.Encode(l)
		if len(l.Changes) == 0 || e != api.OK || bytes[:2] != two(kinds) {
			t.Errorf("%s: %d changes; Encode: %q, %d", name, len(l.Changes), bytes, e)
		}
		if got, e := wire.Decode(bytes); !sameTable(got, l) || e != api.OK {
			t.Errorf("%s: Decode: %v, %d", name, got, e)
		}
	}
}

// P2, P3: what is handed in is only read, the room behind lists too, and is not kept; answers are the caller's.
func TestMemory(t *testing.T) {
	room := []api.Change{{At: 1, Local: b}, {At: 2, Local: a}, {At: 77}}
	before := slices.Clone(room)
	l := api.Table{First: a, Changes: room[:2]}
	want := two(2) + kindA + kindB + two(0) + two(2) + change(1, 1) + change(2, 0)
	for range 2 {
		wire.Encode(api.Table{First: b, Changes: room})
		if s, e := wire.Encode(l); s != want || e != api.OK {
			t.Errorf("Encode = %q, %d", s, e)
		}
		wire.Decode(want[1:])
		got, e := wire.Decode(want)
		if !reflect.DeepEqual(got.Changes, before[:2]) || got.First != a || e != api.OK {
			t.Errorf("Decode = %v, %d", got, e)
		}
		all := got.Changes[:cap(got.Changes)]
		for i := range all {
			all[i] = api.Change{At: 5}
		}
		if !slices.Equal(room, before) {
			t.Fatalf("a table was changed: %v", room)
		}
	}
}
