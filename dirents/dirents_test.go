package dirents

import (
	"math"
	"math/rand"
	"slices"
	"strconv"
	"strings"
	"testing"

	"glissade/api"
)

// zeros is so many zero bytes.
func zeros(n int) string { return strings.Repeat("\x00", n) }

// low is the lowest bytes of a number that is not below 0, the lowest one first, told by divisions.
func low(n, bytes int) string {
	var b strings.Builder
	for range bytes {
		b.WriteByte(byte(n % 256))
		n /= 256
	}
	return b.String()
}

// raised is the number of so many bytes, the lowest one first.
func raised(s string) int {
	n := 0
	for i := len(s) - 1; i >= 0; i-- {
		n = n*256 + int(s[i])
	}
	return n
}

// laid is the bytes of entries one behind the other, as the chapter lays them.
func laid(l []api.Dirent) string {
	var b strings.Builder
	for _, x := range l {
		b.WriteString(low(len(x.Name), 1) + low(x.Inode, 4) + x.Name)
	}
	return b.String()
}

// filled is bytes with zero bytes behind them up to a block.
func filled(s string) string { return s + zeros(128-len(s)) }

// mayName tells whether a name is valid, byte by byte.
func mayName(name string) bool {
	for i := range len(name) {
		if name[i] == 0 || name[i] == 47 {
			return false
		}
	}
	return name != "" && len(name) <= 32
}

// mayInode tells whether a number may be an entry's Inode.
func mayInode(n int) bool { return n >= 0 && n < 4294967296 }

// twice tells whether a name stands twice in a list that is short.
func twice(l []api.Dirent) bool {
	for i := range l {
		for j := range i {
			if l[i].Name == l[j].Name {
				return true
			}
		}
	}
	return false
}

// verdict is what the chapter says of a list that is short: the first of its errors, each of which is looked for in the whole list.
func verdict(l []api.Dirent) api.Errno {
	named, inodes, bytes := true, true, 0
	for _, x := range l {
		named = named && mayName(x.Name)
		inodes = inodes && mayInode(x.Inode)
		bytes += 1 + 4 + len(x.Name)
	}
	switch {
	case !named:
		return api.ErrName
	case !inodes:
		return api.ErrArg
	case twice(l):
		return api.ErrExist
	case bytes > 128:
		return api.ErrRoom
	}
	return api.OK
}

// parsed is the list that a block tells of, read byte by byte, and whether it is a directory block.
func parsed(s string) ([]api.Dirent, bool) {
	if len(s) != 128 {
		return nil, false
	}
	var l []api.Dirent
	for s != "" && s[0] != 0 {
		n := int(s[0])
		if len(s) < 5+n || !mayName(s[5:5+n]) {
			return nil, false
		}
		l = append(l, api.Dirent{Name: s[5 : 5+n], Inode: raised(s[1:5])})
		s = s[5+n:]
	}
	for i := range len(s) {
		if s[i] != 0 {
			return nil, false
		}
	}
	if twice(l) {
		return nil, false
	}
	return l, true
}

// place is where a name stands in a list, or -1.
func place(l []api.Dirent, name string) int {
	for i, x := range l {
		if x.Name == name {
			return i
		}
	}
	return -1
}

// packs holds Pack, and Parse of what it packs, against what the chapter tells of a list; the error is the one that is asked for.
func packs(t *testing.T, l []api.Dirent, want api.Errno) {
	t.Helper()
	if got := verdict(l); got != want {
		t.Fatal("the story says otherwise:", got, want)
	}
	kept := slices.Clone(l)
	for range 2 {
		s, e := Pack(l)
		if !slices.Equal(l, kept) {
			t.Fatal(kept, "was changed to", l)
		}
		if e != want || want != api.OK && s != "" {
			t.Fatalf("%v is %q, %v, wanted %v", l, s, e, want)
		}
		if want != api.OK {
			continue
		}
		if block := filled(laid(l)); s != block {
			t.Fatalf("%v is %q, wanted %q", l, s, block)
		}
		if m, e := Parse(s); e != api.OK || !slices.Equal(m, l) {
			t.Fatalf("%v is had back as %v, %v", l, m, e)
		}
	}
}

// parses holds Parse and Room against what is read from a text byte by byte, and tells whether it is a directory block.
func parses(t *testing.T, s string) bool {
	t.Helper()
	want, ok := parsed(s)
	for range 2 {
		l, e := Parse(s)
		if !ok {
			if l != nil || e != api.ErrForm || Room(s) != 0 {
				t.Fatalf("%q is %v, %v, with room for %d, and no directory block", s, l, e, Room(s))
			}
			continue
		}
		if e != api.OK || !slices.Equal(l, want) {
			t.Fatalf("%q is %v, %v, wanted %v", s, l, e, want)
		}
		if again, e := Pack(l); e != api.OK || again != s {
			t.Fatalf("%q goes back to %q, %v", s, again, e)
		}
		if got, room := Room(s), 128-len(laid(want)); got != room {
			t.Fatalf("%q has room for %d, wanted %d", s, got, room)
		}
	}
	return ok
}

// asks holds Find and Remove of a name against what is read from a text byte by byte.
func asks(t *testing.T, s, name string) {
	t.Helper()
	l, _ := parsed(s)
	at := place(l, name)
	for range 2 {
		n, found := Find(s, name)
		without, removed := Remove(s, name)
		if at < 0 {
			if n != 0 || found || without != s || removed {
				t.Fatalf("%q has no %q: %d, %v, %q, %v", s, name, n, found, without, removed)
			}
			continue
		}
		if n != l[at].Inode || !found {
			t.Fatalf("%q in %q is %d, %v, wanted %d", name, s, n, found, l[at].Inode)
		}
		var rest []api.Dirent
		for i, x := range l {
			if i != at {
				rest = append(rest, x)
			}
		}
		if without != filled(laid(rest)) || !removed {
			t.Fatalf("%q without %q is %q, %v", s, name, without, removed)
		}
	}
}

// inserts holds Insert against what is read from a text byte by byte; the error is the one that is asked for.
func inserts(t *testing.T, s string, x api.Dirent, want api.Errno) {
	t.Helper()
	l, ok := parsed(s)
	got := api.OK
	switch {
	case !ok:
		got = api.ErrForm
	case !mayName(x.Name):
		got = api.ErrName
	case !mayInode(x.Inode):
		got = api.ErrArg
	case place(l, x.Name) >= 0:
		got = api.ErrExist
	case 5+len(x.Name) > 128-len(laid(l)):
		got = api.ErrRoom
	}
	if got != want {
		t.Fatalf("the story says otherwise of %v in %q: %v, %v", x, s, got, want)
	}
	for range 2 {
		longer, e := Insert(s, x)
		if e != want || want != api.OK && longer != "" {
			t.Fatalf("%v in %q is %q, %v, wanted %v", x, s, longer, e, want)
		}
		if want == api.OK && longer != filled(laid(l)+laid([]api.Dirent{x})) {
			t.Fatalf("%v in %q is %q", x, s, longer)
		}
	}
}

// denies holds that a text is no directory block, for Parse and Room.
func denies(t *testing.T, s string) {
	t.Helper()
	if parses(t, s) {
		t.Fatalf("%q is a directory block", s)
	}
}

// refuses holds that a text is no directory block, for any of the functions.
func refuses(t *testing.T, s string) {
	t.Helper()
	denies(t, s)
	for _, name := range []string{"", "a", "b", "bc", "q", "/", "\x00", long(32, 'q'), long(33, 'q')} {
		asks(t, s, name)
		for _, inode := range []int{-1, 0, 1 << 32} {
			inserts(t, s, api.Dirent{Name: name, Inode: inode}, api.ErrForm)
		}
	}
}

// takes holds that a text is a directory block.
func takes(t *testing.T, s string) {
	t.Helper()
	if !parses(t, s) {
		t.Fatalf("%q is no directory block", s)
	}
}

// long is a name of so many bytes of one kind.
func long(n int, b byte) string { return strings.Repeat(string([]byte{b}), n) }

// sized is a list of so many bytes, which are 0 or at least 6, with as few entries as there can be.
func sized(bytes int) []api.Dirent {
	var l []api.Dirent
	for bytes > 0 {
		n := min(bytes, 37)
		// What is left has to be an entry, too.
		if left := bytes - n; left > 0 && left < 6 {
			n -= 6 - left
		}
		i := len(l)
		l = append(l, api.Dirent{Name: long(n-5, byte('A'+i)), Inode: 1000*i + n})
		bytes -= n
	}
	return l
}

// counted is so many entries, no two of the same name, with the shortest names that there are for the first 254.
func counted(n int) []api.Dirent {
	var l []api.Dirent
	for b := range 256 {
		if len(l) < n && b != 0 && b != 47 {
			l = append(l, api.Dirent{Name: string([]byte{byte(b)}), Inode: b})
		}
	}
	for len(l) < n {
		l = append(l, api.Dirent{Name: "n" + strconv.Itoa(len(l)), Inode: len(l)})
	}
	return l
}

// few is two entries, those of the chapter's examples.
func few() []api.Dirent { return []api.Dirent{{Name: "a", Inode: 5}, {Name: "bc", Inode: 258}} }

// some are valid lists: empty ones, full ones, of one entry and of the most, with all kinds of bytes.
func some() [][]api.Dirent {
	out := [][]api.Dirent{
		nil,
		{},
		few(),
		{{Name: ".", Inode: 0}, {Name: "..", Inode: 0}},
		{{Name: "..", Inode: 511}, {Name: "...", Inode: 511}, {Name: ".a", Inode: 3}},
		{{Name: "\xff\xfe", Inode: 1<<32 - 1}, {Name: "\x01", Inode: 1 << 31}, {Name: "ü€", Inode: 1<<31 - 1}},
		{{Name: "\xff", Inode: 1}, {Name: "\xef\xbf\xbd", Inode: 2}, {Name: "\xfe", Inode: 3}},
		{{Name: "a", Inode: 1}, {Name: "A", Inode: 1}, {Name: " a", Inode: 1}, {Name: "a ", Inode: 1}, {Name: " ", Inode: 1}},
		{{Name: "b", Inode: 0x01020304}, {Name: "ab", Inode: 0xfefdfcfb}, {Name: "abc", Inode: 0x00ff00ff}},
	}
	for bytes := 6; bytes <= 128; bytes++ {
		out = append(out, sized(bytes))
	}
	for n := 1; n <= 21; n++ {
		out = append(out, counted(n))
	}
	return out
}

// madeUp is a valid list that is made up.
func madeUp(from *rand.Rand) []api.Dirent {
	var l []api.Dirent
	room := 128 - from.Intn(100)
	for tries := 0; tries < 30; tries++ {
		x := madeUpEntry(from)
		if 5+len(x.Name) <= room && place(l, x.Name) < 0 {
			l = append(l, x)
			room -= 5 + len(x.Name)
		}
	}
	return l
}

// madeUpEntry is a valid entry that is made up; short names are frequent, so that they meet.
func madeUpEntry(from *rand.Rand) api.Dirent {
	n := 1 + from.Intn(3)
	if from.Intn(3) == 0 {
		n = 1 + from.Intn(32)
	}
	name := make([]byte, n)
	for i := range name {
		name[i] = "abc."[from.Intn(4)]
		if from.Intn(4) == 0 {
			name[i] = byte(48 + from.Intn(208))
		}
	}
	return api.Dirent{Name: string(name), Inode: int(from.Uint32()) >> from.Intn(32)}
}

// P12.1, P12.2, P12.3, P12.4: the chapter's examples.
func TestExamples(t *testing.T) {
	s, e := Pack([]api.Dirent{{Name: "a", Inode: 5}, {Name: "bc", Inode: 258}})
	if want := string([]byte{1, 5, 0, 0, 0, 'a', 2, 2, 1, 0, 0, 'b', 'c'}) + zeros(115); s != want || e != api.OK {
		t.Fatalf("%q, %v", s, e)
	}
	if n := Room(s); n != 115 {
		t.Error(n)
	}
	if n, ok := Find(s, "bc"); n != 258 || !ok {
		t.Error(n, ok)
	}
	if n, ok := Find(s, "b"); n != 0 || ok {
		t.Error(n, ok)
	}
	if u, ok := Remove(s, "a"); u != string([]byte{2, 2, 1, 0, 0, 'b', 'c'})+zeros(121) || !ok {
		t.Errorf("%q, %v", u, ok)
	}
	for _, x := range []struct {
		x    api.Dirent
		want api.Errno
	}{{api.Dirent{Name: "a", Inode: 9}, api.ErrExist}, {api.Dirent{Name: "c/d", Inode: 9}, api.ErrName}, {api.Dirent{Name: "c", Inode: -1}, api.ErrArg}} {
		if u, e := Insert(s, x.x); u != "" || e != x.want {
			t.Errorf("%v: %q, %v", x.x, u, e)
		}
	}
	if l, e := Parse(zeros(128)); len(l) != 0 || e != api.OK {
		t.Error(l, e)
	}
	for _, u := range []string{s[:127] + "\x01", s[:127], zeros(127)} {
		if l, e := Parse(u); l != nil || e != api.ErrForm {
			t.Errorf("%q: %v, %v", u, l, e)
		}
	}
}

// P12.1, P12.2, P12.4: valid lists of all kinds, and what is found in them and taken from them.
func TestSome(t *testing.T) {
	for _, l := range some() {
		packs(t, l, api.OK)
		s := filled(laid(l))
		takes(t, s)
		for _, name := range []string{"", "a", "b", "/", "\x00", ".", "..", long(33, 'A'), long(1<<16, 'A')} {
			asks(t, s, name)
		}
		for _, x := range l {
			asks(t, s, x.Name)
			asks(t, s, x.Name[:len(x.Name)-1])
			asks(t, s, x.Name[1:])
			asks(t, s, x.Name+"a")
			asks(t, s, x.Name+"\x00")
			asks(t, s, "a"+x.Name)
		}
	}
}

// P12.1, P12.3, R1: names of every length, at the ends of a list and within it.
func TestNameLengths(t *testing.T) {
	for _, n := range []int{0, 1, 2, 3, 16, 31, 32, 33, 34, 64, 127, 128, 255, 256, 257, 258, 288, 289, 65536, 65537, 1 << 20} {
		want := api.OK
		if n < 1 || n > 32 {
			want = api.ErrName
		}
		x := api.Dirent{Name: long(n, 'x'), Inode: 7}
		packs(t, []api.Dirent{x}, want)
		packs(t, append([]api.Dirent{x}, few()...), want)
		packs(t, append(few(), x), want)
		packs(t, slices.Insert(few(), 1, x), want)
		inserts(t, zeros(128), x, want)
		inserts(t, filled(laid(few())), x, want)
	}
}

// P12.1, P12.3: every byte at the first, a middle and the last place of a name.
func TestNameBytes(t *testing.T) {
	for _, n := range []int{1, 2, 3, 8, 9, 10, 31, 32} {
		for _, at := range []int{0, n / 2, n - 1} {
			for b := range 256 {
				want := api.OK
				if b == 0 || b == 47 {
					want = api.ErrName
				}
				for _, other := range []byte{'x', 1, 46, 48, 255, 0xe2} {
					name := []byte(long(n, other))
					name[at] = byte(b)
					x := api.Dirent{Name: string(name), Inode: 1 << 20}
					packs(t, []api.Dirent{x}, want)
					inserts(t, zeros(128), x, want)
					s := filled(low(n, 1) + low(1<<20, 4) + string(name))
					if parses(t, s) != (want == api.OK) {
						t.Fatalf("%q: wanted %v", s, want)
					}
					asks(t, s, x.Name)
				}
			}
		}
	}
}

// inodes is numbers and whether an entry may have them.
func inodes() map[int]bool {
	return map[int]bool{
		math.MinInt: false, math.MinInt + 1: false, math.MinInt + 5: false, -1 << 32: false, -1<<32 + 5: false, -1 << 31: false, -256: false, -255: false, -2: false, -1: false,
		0: true, 1: true, 2: true, 47: true, 255: true, 256: true, 257: true, 511: true, 512: true, 65535: true, 65536: true, 1<<24 - 1: true, 1 << 24: true, 1<<31 - 1: true, 1 << 31: true, 1<<32 - 2: true, 1<<32 - 1: true,
		1 << 32: false, 1<<32 + 1: false, 1<<32 + 5: false, 1 << 40: false, 1 << 62: false, math.MaxInt - 1: false, math.MaxInt: false,
	}
}

// P12.1, P12.2, P12.3: Inodes at their edges and beyond them, at the ends of a list and within it.
func TestInodes(t *testing.T) {
	for n, may := range inodes() {
		want := api.OK
		if !may {
			want = api.ErrArg
		}
		x := api.Dirent{Name: "x", Inode: n}
		packs(t, []api.Dirent{x}, want)
		packs(t, append([]api.Dirent{x}, few()...), want)
		packs(t, append(few(), x), want)
		packs(t, slices.Insert(few(), 1, x), want)
		inserts(t, zeros(128), x, want)
		inserts(t, filled(laid(few())), x, want)
		if s, e := Insert(filled(laid(few())), x); may {
			if got, ok := Find(s, "x"); e != api.OK || got != n || !ok {
				t.Error(n, "is found as", got, ok, e)
			}
		}
	}
}

// P12.1, P12.2: lists of every number of bytes up to and beyond a block.
func TestBytes(t *testing.T) {
	for bytes := 6; bytes <= 400; bytes++ {
		want := api.OK
		if bytes > 128 {
			want = api.ErrRoom
		}
		l := sized(bytes)
		if len(laid(l)) != bytes {
			t.Fatalf("%v has %d bytes, not %d", l, len(laid(l)), bytes)
		}
		packs(t, l, want)
		if s, e := Pack(l); want == api.OK && (e != api.OK || Room(s) != 128-bytes) {
			t.Error(bytes, Room(s), e)
		}
	}
	// The same bounds with many entries, of which the last one is longer and longer.
	for n := 1; n <= 20; n++ {
		for last := 1; last <= 32; last++ {
			bytes := 6*n + 5 + last
			want := api.OK
			if bytes > 128 {
				want = api.ErrRoom
			}
			x := api.Dirent{Name: long(last, 'z'), Inode: n}
			if last == 1 {
				x.Name = "\xff"
			}
			packs(t, append(counted(n), x), want)
			packs(t, append([]api.Dirent{x}, counted(n)...), want)
		}
	}
}

// P12.1, R1: no entry at all, one, the most that a block holds, one more, and very many.
func TestCounts(t *testing.T) {
	for n := range 60 {
		want := api.OK
		if n > 21 {
			want = api.ErrRoom
		}
		packs(t, counted(n), want)
	}
	for _, n := range []int{254, 255, 256, 257, 1000, 1 << 17} {
		l := counted(n)
		for _, x := range []struct {
			at   int
			x    api.Dirent
			want api.Errno
		}{
			{n - 1, l[n-1], api.ErrRoom},
			{n - 1, l[0], api.ErrExist},
			{0, l[n-1], api.ErrExist},
			{n / 2, l[n/2-1], api.ErrExist},
			{n - 1, api.Dirent{Name: "x", Inode: -1}, api.ErrArg},
			{0, api.Dirent{Name: l[1].Name, Inode: 1 << 32}, api.ErrArg},
			{n - 1, api.Dirent{Name: l[1].Name + "/", Inode: -1}, api.ErrName},
			{n / 2, api.Dirent{}, api.ErrName},
		} {
			m := slices.Clone(l)
			m[x.at] = x.x
			kept := slices.Clone(m)
			if s, e := Pack(m); s != "" || e != x.want || !slices.Equal(m, kept) {
				t.Errorf("%d, %v at %d: %q, %v, wanted %v", n, x.x, x.at, s, e, x.want)
			}
		}
	}
	// Many entries without any name, and with one name all of them.
	for _, n := range []int{2, 21, 22, 256, 1 << 17} {
		if s, e := Pack(make([]api.Dirent, n)); s != "" || e != api.ErrName {
			t.Errorf("%d: %q, %v", n, s, e)
		}
		l := make([]api.Dirent, n)
		for i := range l {
			l[i] = api.Dirent{Name: "a", Inode: i}
		}
		if s, e := Pack(l); s != "" || e != api.ErrExist {
			t.Errorf("%d: %q, %v", n, s, e)
		}
	}
}

// P12.1, R5: of several errors of a list the first one in the document's order is told, wherever in the list each of them is.
func TestPackOrder(t *testing.T) {
	from := rand.New(rand.NewSource(12))
	for set := range 16 {
		want := api.OK
		l := few()
		if set&8 != 0 {
			l = append(l, sized(128)...)
			want = api.ErrRoom
		}
		if set&4 != 0 {
			l = append(l, api.Dirent{Name: "bc", Inode: 7})
			want = api.ErrExist
		}
		if set&2 != 0 {
			l = append(l, api.Dirent{Name: "i", Inode: []int{-1, 1 << 32}[set&1]})
			want = api.ErrArg
		}
		if set&1 != 0 {
			l = append(l, api.Dirent{Name: []string{"", "a/", long(33, 'x')}[set%3], Inode: 1})
			want = api.ErrName
		}
		packs(t, l, want)
		slices.Reverse(l)
		packs(t, l, want)
		for range 100 {
			from.Shuffle(len(l), func(i, j int) { l[i], l[j] = l[j], l[i] })
			packs(t, l, want)
		}
	}
	// All of them in a single entry, as far as they go together.
	packs(t, []api.Dirent{{Name: "", Inode: -1}, {Name: "", Inode: -1}}, api.ErrName)
	packs(t, []api.Dirent{{Name: long(200, 'x'), Inode: 1 << 32}}, api.ErrName)
	packs(t, []api.Dirent{{Name: "a", Inode: 1 << 32}, {Name: "a", Inode: -1}}, api.ErrArg)
	packs(t, []api.Dirent{{Name: "a", Inode: -1}, {Name: "/", Inode: 0}}, api.ErrName)
	packs(t, []api.Dirent{{Name: "/", Inode: 0}, {Name: "a", Inode: -1}}, api.ErrName)
	packs(t, []api.Dirent{{Name: "a", Inode: 0}, {Name: "a", Inode: 0}, {Name: "b", Inode: -1}}, api.ErrArg)
	packs(t, append(sized(128), api.Dirent{Name: long(32, 'A'), Inode: 1}), api.ErrExist)
}

// P12.3, R5: of several errors of an Insert the first one in the document's order is told.
func TestInsertOrder(t *testing.T) {
	for _, full := range [][]api.Dirent{few(), sized(128), sized(127), counted(21), sized(6)} {
		s := filled(laid(full))
		held := full[len(full)-1].Name
		room := 128 - len(laid(full))
		for _, inode := range []int{math.MinInt, -1, 1 << 32, math.MaxInt} {
			for _, name := range []string{"", "/", "\x00", held + "/", "\x00" + held, long(33, 'x'), long(500, 'x')} {
				inserts(t, s, api.Dirent{Name: name, Inode: inode}, api.ErrName)
				inserts(t, s, api.Dirent{Name: name, Inode: 5}, api.ErrName)
				inserts(t, s+"\x00", api.Dirent{Name: name, Inode: inode}, api.ErrForm)
				inserts(t, s[:127], api.Dirent{Name: name, Inode: 5}, api.ErrForm)
			}
			for _, name := range []string{held, "new", long(32, 'x')} {
				inserts(t, s, api.Dirent{Name: name, Inode: inode}, api.ErrArg)
				inserts(t, s[1:], api.Dirent{Name: name, Inode: inode}, api.ErrForm)
			}
		}
		for _, x := range full {
			inserts(t, s, x, api.ErrExist)
			inserts(t, s, api.Dirent{Name: x.Name, Inode: x.Inode + 1}, api.ErrExist)
			inserts(t, s[:126], x, api.ErrForm)
		}
		want := api.OK
		if room < 37 {
			want = api.ErrRoom
		}
		inserts(t, s, api.Dirent{Name: long(32, 'x'), Inode: 1}, want)
	}
}

// P12.3: an entry whose bytes are exactly the room of a block, one fewer and one more.
func TestInsertRoom(t *testing.T) {
	for bytes := 6; bytes <= 128; bytes++ {
		s := filled(laid(sized(bytes)))
		for n := 1; n <= 32; n++ {
			want := api.OK
			if 5+n > Room(s) {
				want = api.ErrRoom
			}
			if Room(s) != 128-bytes {
				t.Fatal(bytes, Room(s))
			}
			x := api.Dirent{Name: long(n, 'x'), Inode: 1 << 30}
			inserts(t, s, x, want)
			if longer, e := Insert(s, x); e == api.OK && Room(longer) != Room(s)-5-n {
				t.Fatalf("%q: room for %d", longer, Room(longer))
			}
		}
	}
	for n := range 22 {
		s := filled(laid(counted(n)))
		want := api.OK
		if n == 21 {
			want = api.ErrRoom
		}
		inserts(t, s, api.Dirent{Name: "\xff"}, want)
	}
}

// P12.1, P12.3: names that are the same, the one the beginning or the end of the other, or that differ in one byte.
func TestLikeNames(t *testing.T) {
	for _, l := range [][]api.Dirent{
		{{Name: "a", Inode: 1}, {Name: "a", Inode: 1}},
		{{Name: "a", Inode: 1}, {Name: "a", Inode: 2}, {Name: "b", Inode: 3}},
		{{Name: "b", Inode: 3}, {Name: "a", Inode: 1}, {Name: "a", Inode: 2}},
		{{Name: "a", Inode: 1}, {Name: "b", Inode: 3}, {Name: "a", Inode: 2}},
		{{Name: "a", Inode: 1}, {Name: "b", Inode: 2}, {Name: "c", Inode: 3}, {Name: "d", Inode: 4}, {Name: "b", Inode: 5}},
		{{Name: long(32, 'x'), Inode: 1}, {Name: "b", Inode: 3}, {Name: long(32, 'x'), Inode: 2}},
		{{Name: "\xff", Inode: 1}, {Name: "\xfe", Inode: 3}, {Name: "\xff", Inode: 2}},
	} {
		packs(t, l, api.ErrExist)
		refuses(t, filled(laid(l)))
	}
	for _, name := range []string{"ab", "abc", "aaaa", long(31, 'x'), long(32, 'x'), "\xff\xfe\xfd", "ü€ü"} {
		x := api.Dirent{Name: name, Inode: 9}
		s := filled(laid([]api.Dirent{x}))
		like := []string{name[1:], name[:len(name)-1], name[len(name)/2:]}
		if len(name) < 32 {
			like = append(like, name+"a", "a"+name, name+"\x01")
		}
		for i := range len(name) {
			b := []byte(name)
			b[i] ^= 1
			like = append(like, string(b))
		}
		for _, other := range like {
			y := api.Dirent{Name: other, Inode: 9}
			packs(t, []api.Dirent{x, y}, api.OK)
			packs(t, []api.Dirent{y, x}, api.OK)
			inserts(t, s, y, api.OK)
			asks(t, s, other)
			both := filled(laid([]api.Dirent{x, y}))
			asks(t, both, name)
			asks(t, both, other)
		}
		inserts(t, s, api.Dirent{Name: name, Inode: 10}, api.ErrExist)
	}
}

// P12.1, P12.2, P12.3, R1: texts that are shorter or longer than a block.
func TestLengths(t *testing.T) {
	for _, l := range some() {
		s := filled(laid(l))
		takes(t, s)
		for _, n := range []int{0, 1, 5, 6, 64, 126, 127} {
			refuses(t, s[:n])
			refuses(t, s[128-n:])
		}
		refuses(t, s+"\x00")
		refuses(t, "\x00"+s)
		refuses(t, s+s)
		refuses(t, s+zeros(128))
		refuses(t, s+"\x01\x01\x00\x00\x00x")
	}
	for n := range 400 {
		if parses(t, zeros(n)) != (n == 128) {
			t.Fatal(n)
		}
	}
	refuses(t, zeros(1<<20))
	refuses(t, strings.Repeat("\x01\x02\x00\x00\x00x", 1<<18))
}

// P12.1, P12.2, P12.3: behind the first zero byte in the place of a length no byte may be other than 0.
func TestBytesBehind(t *testing.T) {
	for _, l := range some() {
		s := filled(laid(l))
		for at := len(laid(l)) + 1; at < 128; at++ {
			for _, b := range []string{"\x01", "\x02", "\x20", "/", "a", "\xff"} {
				denies(t, s[:at]+b+s[at+1:])
			}
		}
		// In the place of the length there would be an entry, whose name is zeros or does not fit.
		if at := len(laid(l)); at < 128 {
			for b := 1; b < 256; b++ {
				denies(t, s[:at]+string([]byte{byte(b)})+s[at+1:])
			}
			refuses(t, s[:at]+"\x01"+s[at+1:])
			refuses(t, s[:127]+"\x01")
		}
	}
	// A whole entry behind a zero byte.
	one := laid([]api.Dirent{{Name: "a", Inode: 5}})
	for at := 1; at <= 128-len(one); at++ {
		refuses(t, zeros(at)+one+zeros(128-len(one)-at))
	}
	takes(t, filled(one))
	refuses(t, one+"\x00"+one+zeros(128-2*len(one)-1))
}

// P12.1: entries that run up to the end of the block and beyond it, or of which only a part fits.
func TestEnds(t *testing.T) {
	for bytes := 6; bytes <= 128; bytes++ {
		s := laid(sized(bytes))
		left := 128 - bytes
		for n := 1; n < 256; n++ {
			tail := low(n, 1) + low(1<<24, 4) + long(n, 'x')
			if len(tail) <= left {
				if u := filled(s + tail); parses(t, u) != (n <= 32) {
					t.Fatalf("%q", u)
				}
				continue
			}
			denies(t, s+tail)
			if left > 0 {
				denies(t, s+tail[:left])
			}
		}
		if left >= 6 && left <= 37 {
			takes(t, s+laid([]api.Dirent{{Name: long(left-5, 'x'), Inode: 1 << 24}}))
			longer := s + laid([]api.Dirent{{Name: long(left-4, 'x'), Inode: 1 << 24}})
			refuses(t, longer)
			refuses(t, longer[:128])
		}
	}
}

// P12.1: every length byte, in the first entry and in a later one, whatever is behind it.
func TestLengthBytes(t *testing.T) {
	for _, before := range []string{"", laid(few()), laid(sized(60)), laid(counted(80)[64:])} {
		for b := range 256 {
			for _, c := range []byte{0, 1, 32, 33, 'x', 255} {
				u := before + string([]byte{byte(b)})
				u += long(128-len(u), c)
				parses(t, u)
				asks(t, u, "a")
				asks(t, u, long(min(b, 32), c))
				// With as many bytes as the length says and zeros behind them.
				u = before + string([]byte{byte(b)}) + low(7, 4) + long(b, c)
				if len(u) > 128 {
					refuses(t, u[:128])
					continue
				}
				// Where the length is 0, the Inode's 7 stands behind a zero byte.
				ok := b >= 1 && b <= 32 && c != 0
				if parses(t, filled(u)) != ok {
					t.Fatalf("%q: wanted %v", filled(u), ok)
				}
			}
		}
	}
}

// P12.1: a 0 or a slash in a name of a block, at each of its places.
func TestBarredBytes(t *testing.T) {
	for _, l := range some() {
		s := laid(l)
		at := 0
		for _, x := range l {
			at += 5
			for i := range len(x.Name) {
				for _, b := range []string{"\x00", "/"} {
					refuses(t, filled(s[:at+i]+b+s[at+i+1:]))
				}
			}
			at += len(x.Name)
		}
	}
}

// P12.2, P12.3: every entry found and removed, the first, those within and the last, until none is left.
func TestEmptied(t *testing.T) {
	from := rand.New(rand.NewSource(120))
	for _, l := range some() {
		for _, first := range []func(int) int{
			func(int) int { return 0 },
			func(n int) int { return n - 1 },
			func(n int) int { return n / 2 },
			from.Intn,
		} {
			rest := slices.Clone(l)
			s := filled(laid(l))
			for len(rest) > 0 {
				i := first(len(rest))
				name := rest[i].Name
				asks(t, s, name)
				room := Room(s)
				u, ok := Remove(s, name)
				if !ok || Room(u) != room+5+len(name) {
					t.Fatalf("%q without %q: %q, %v", s, name, u, ok)
				}
				rest = slices.Delete(rest, i, i+1)
				s = u
				asks(t, s, name)
				for _, x := range rest {
					if n, ok := Find(s, x.Name); n != x.Inode || !ok {
						t.Fatalf("%q in %q is %d, %v", x.Name, s, n, ok)
					}
				}
			}
			if s != zeros(128) || Room(s) != 128 {
				t.Fatalf("%q is left", s)
			}
		}
	}
}

// P12.4: entries come and go, and a block stays the block of its list, step by step.
func TestComingAndGoing(t *testing.T) {
	from := rand.New(rand.NewSource(121))
	var l []api.Dirent
	s := zeros(128)
	came, went, full, there := 0, 0, 0, 0
	for range 30000 {
		x := madeUpEntry(from)
		if from.Intn(3) == 0 {
			if len(l) > 0 && from.Intn(4) > 0 {
				x = l[from.Intn(len(l))]
			}
			u, ok := Remove(s, x.Name)
			at := place(l, x.Name)
			if ok != (at >= 0) {
				t.Fatalf("%q without %q: %v", s, x.Name, ok)
			}
			if ok {
				l = slices.Delete(l, at, at+1)
				went++
			}
			s = u
		} else {
			u, e := Insert(s, x)
			switch e {
			case api.OK:
				l = append(l, x)
				s = u
				came++
			case api.ErrExist:
				there++
			case api.ErrRoom:
				full++
			}
			want := api.OK
			if e != api.OK && place(l, x.Name) >= 0 {
				want = api.ErrExist
			} else if e != api.OK && len(laid(l))+5+len(x.Name) > 128 {
				want = api.ErrRoom
			}
			if e != want {
				t.Fatalf("%v in %q: %v, wanted %v", x, s, e, want)
			}
		}
		if s != filled(laid(l)) || Room(s) != 128-len(laid(l)) {
			t.Fatalf("%q is not the block of %v", s, l)
		}
		if m, e := Parse(s); e != api.OK || !slices.Equal(m, l) {
			t.Fatalf("%q is %v, %v, wanted %v", s, m, e, l)
		}
		asks(t, s, x.Name)
	}
	if came < 3000 || went < 3000 || full < 3000 || there < 500 {
		t.Error("so few of them:", came, went, full, there)
	}
}

// P12.4: what is inserted into a block and then removed leaves it as it was, and all else in it meanwhile.
func TestThereAndBack(t *testing.T) {
	from := rand.New(rand.NewSource(122))
	done := 0
	for range 20000 {
		l := madeUp(from)
		s := filled(laid(l))
		x := madeUpEntry(from)
		u, e := Insert(s, x)
		if e != api.OK {
			continue
		}
		done++
		if n, ok := Find(u, x.Name); n != x.Inode || !ok {
			t.Fatalf("%v in %q is %d, %v", x, u, n, ok)
		}
		for _, y := range l {
			if n, ok := Find(u, y.Name); n != y.Inode || !ok {
				t.Fatalf("%v in %q is %d, %v", y, u, n, ok)
			}
		}
		if Room(u) != Room(s)-5-len(x.Name) {
			t.Fatalf("%q leaves room for %d", u, Room(u))
		}
		back, ok := Remove(u, x.Name)
		if back != s || !ok {
			t.Fatalf("%q, %v, wanted %q", back, ok, s)
		}
		if n, ok := Find(back, x.Name); n != 0 || ok {
			t.Fatalf("%q is found still: %d", x.Name, n)
		}
	}
	if done < 5000 {
		t.Error("so few of them:", done)
	}
}

// P12.1, P12.4: lists that were made up, valid or not.
func TestMadeUp(t *testing.T) {
	from := rand.New(rand.NewSource(123))
	valid := 0
	for range 40000 {
		l := madeUp(from)
		if len(l) > 0 && from.Intn(3) == 0 {
			at := from.Intn(len(l))
			switch from.Intn(5) {
			case 0:
				l[at].Inode = -1 - from.Intn(300)
			case 1:
				l[at].Inode = 1<<32 + from.Intn(300)
			case 2:
				l[at].Name += "/"
			case 3:
				l = slices.Insert(l, from.Intn(len(l)+1), l[at])
			case 4:
				l = append(l, madeUpEntry(from), madeUpEntry(from))
			}
		}
		e := verdict(l)
		packs(t, l, e)
		if e == api.OK {
			valid++
		}
	}
	if valid < 20000 || valid > 38000 {
		t.Error("so many of them are valid:", valid)
	}
}

// P12.1, P12.2, P12.3, R1: blocks that were made up, or changed in a few places, are directory blocks just where the chapter says so.
func TestMadeUpBlocks(t *testing.T) {
	from := rand.New(rand.NewSource(124))
	valid := 0
	for range 40000 {
		l := madeUp(from)
		b := []byte(filled(laid(l)))
		for range from.Intn(3) {
			b[from.Intn(len(laid(l))+1)%128] = byte(from.Intn(256)) >> from.Intn(8)
		}
		s := string(b)
		if parses(t, s) {
			valid++
		} else {
			inserts(t, s, madeUpEntry(from), api.ErrForm)
		}
		asks(t, s, madeUpEntry(from).Name)
		if len(l) > 0 {
			asks(t, s, l[from.Intn(len(l))].Name)
		}
	}
	if valid < 15000 || valid > 35000 {
		t.Error("so many of them are directory blocks:", valid)
	}
	for range 10000 {
		b := make([]byte, from.Intn(200))
		for i := range b {
			b[i] = byte(from.Intn(256))
		}
		parses(t, string(b))
		asks(t, string(b), string(b[:min(len(b), 3)]))
	}
	// The shortest entries, whose bytes are few enough that all kinds of them come about.
	seen := 0
	for range 40000 {
		b := make([]byte, 128)
		for i := range 12 {
			b[i] = byte(from.Intn(3))
		}
		if parses(t, string(b)) {
			seen++
		}
	}
	if seen < 100 {
		t.Error("so few of them are directory blocks:", seen)
	}
}

// P12.1: unlike lists have unlike blocks.
func TestUnlike(t *testing.T) {
	from := rand.New(rand.NewSource(125))
	pool := some()
	for range 3000 {
		l := madeUp(from)
		pool = append(pool, l)
		if len(l) > 1 {
			other := slices.Clone(l)
			other[0], other[1] = other[1], other[0]
			pool = append(pool, other)
			other = slices.Clone(l)
			other[len(l)-1].Inode ^= 1 << from.Intn(32)
			pool = append(pool, other)
		}
	}
	seen := map[string][]api.Dirent{}
	for _, l := range pool {
		s, e := Pack(l)
		if e != api.OK {
			t.Fatal(l, e)
		}
		if other, ok := seen[s]; ok && !slices.Equal(other, l) {
			t.Fatalf("%v and %v are both %q", other, l, s)
		}
		seen[s] = l
	}
}

// R4: a list that is passed stays as it is, with what lies behind it, and is not kept; one that is returned is new each time.
func TestLists(t *testing.T) {
	for _, l := range some() {
		n := len(l)
		room := append(slices.Clone(l), api.Dirent{Name: "behind", Inode: 1}, api.Dirent{Name: "behind", Inode: -2})
		whole := slices.Clone(room)
		s, e := Pack(room[:n])
		if e != api.OK || !slices.Equal(room, whole) {
			t.Fatal(l, e, room, whole)
		}
		y, _ := Parse(s)
		z, _ := Parse(s)
		for i := range y {
			y[i] = api.Dirent{Name: "/", Inode: -1}
		}
		y = append(y, api.Dirent{Name: "/", Inode: -1})
		if !slices.Equal(room, whole) || !slices.Equal(z, l) {
			t.Fatalf("%v shares its entries with what was returned: %v", l, z)
		}
		clear(room)
		if again, e := Parse(s); e != api.OK || !slices.Equal(again, z) {
			t.Fatalf("what was passed is kept: %v, %v, %v", again, z, e)
		}
		if x, e := Pack(z); x != s || e != api.OK {
			t.Fatalf("%q, %v, wanted %q", x, e, s)
		}
		// What other calls do with a block leaves a list that was parsed before as it is.
		kept := slices.Clone(z)
		for _, x := range kept {
			Find(s, x.Name)
			Remove(s, x.Name)
			Insert(s, api.Dirent{Name: "new", Inode: 1})
		}
		if !slices.Equal(z, kept) {
			t.Fatalf("%v was changed to %v", kept, z)
		}
	}
	// A list that is refused stays as it is, too.
	for _, bad := range [][]api.Dirent{
		{{Name: "b", Inode: -1}, {Name: "a/", Inode: 1 << 32}, {Name: "b", Inode: -1}},
		{{Name: "b", Inode: 4}, {Name: "a", Inode: 3}, {Name: "b", Inode: 2}},
		append(sized(128), few()...),
	} {
		kept := slices.Clone(bad)
		if s, e := Pack(bad); s != "" || e == api.OK || !slices.Equal(bad, kept) {
			t.Errorf("%q, %v, %v", s, e, bad)
		}
	}
}

// R2: what was refused changes nothing of what comes behind, and the same call answers the same.
func TestOneBehindTheOther(t *testing.T) {
	s := filled(laid(few()))
	for _, other := range []string{"", "\x01", zeros(129), s[:127] + "\x01", strings.Repeat("\xff", 128), filled("\x21" + zeros(4) + long(33, 'x')), filled(laid(append(few(), few()...)))} {
		refuses(t, other)
		takes(t, s)
		asks(t, s, "a")
		asks(t, s, "bc")
		inserts(t, s, api.Dirent{Name: "new", Inode: 1}, api.OK)
		packs(t, []api.Dirent{{Name: "a", Inode: -1}}, api.ErrArg)
		packs(t, few(), api.OK)
	}
}
