package names

import (
	"math/rand"
	"slices"
	"strings"
	"testing"

	"glissade/api"
)

// times is so many of one text behind each other.
func times(n int, s string) string { return strings.Repeat(s, n) }

// many is a list of so many of one text.
func many(n int, s string) []string { return slices.Repeat([]string{s}, n) }

// one is the text of a single byte.
func one(b byte) string { return string([]byte{b}) }

// mayName tells whether a text is a name, byte by byte.
func mayName(s string) bool {
	dots := true
	for i := range len(s) {
		if s[i] == 0 || s[i] == 47 {
			return false
		}
		dots = dots && s[i] == 46
	}
	if dots && len(s) <= 2 {
		return false
	}
	return len(s) <= 32
}

// mayPart tells whether a text is a component, byte by byte.
func mayPart(s string) bool {
	if len(s) == 1 && s[0] == 46 || len(s) == 2 && s[0] == 46 && s[1] == 46 {
		return true
	}
	return mayName(s)
}

// toldPath is what the chapter says of a text that is to be a path, read byte by byte: its components, or the first of its errors.
func toldPath(s string) ([]string, api.Errno) {
	if len(s) > 256 {
		return nil, api.ErrLong
	}
	if s == "" || s[0] != 47 {
		return nil, api.ErrName
	}
	var parts []string
	var part []byte
	for i := 1; len(s) > 1 && i <= len(s); i++ {
		if i < len(s) && s[i] != 47 {
			part = append(part, s[i])
			continue
		}
		if !mayPart(string(part)) {
			return nil, api.ErrName
		}
		parts = append(parts, string(part))
		part = nil
	}
	if len(parts) > 16 {
		return nil, api.ErrLong
	}
	return parts, api.OK
}

// toldParts is what the chapter says of a list that is to be joined: its path, or the first of its errors, each of which is looked for in the whole list.
func toldParts(parts []string) (string, api.Errno) {
	var b strings.Builder
	valid := true
	for _, part := range parts {
		valid = valid && mayPart(part)
		b.WriteString("/" + part)
	}
	if len(parts) == 0 {
		b.WriteString("/")
	}
	if !valid {
		return "", api.ErrName
	}
	if len(parts) > 16 || b.Len() > 256 {
		return "", api.ErrLong
	}
	return b.String(), api.OK
}

// shown is as much of a text as can be told.
func shown(s string) string { return s[:min(len(s), 300)] }

// checks holds Check against what the chapter says of a name.
func checks(t *testing.T, s string) bool {
	t.Helper()
	want := api.ErrName
	if mayName(s) {
		want = api.OK
	}
	for range 2 {
		if got := Check(s); got != want {
			t.Fatalf("%q: %v, wanted %v", shown(s), got, want)
		}
	}
	return want == api.OK
}

// is holds that a text is a name, or that it is none.
func is(t *testing.T, s string, name bool) {
	t.Helper()
	if checks(t, s) != name {
		t.Fatalf("the story says otherwise of %q: %v", shown(s), name)
	}
}

// splits holds Split of a text against what the chapter says of it, and tells the error.
func splits(t *testing.T, s string) api.Errno {
	t.Helper()
	want, e := toldPath(s)
	for range 2 {
		parts, got := Split(s)
		if got != e || !slices.Equal(parts, want) {
			t.Fatalf("%q: %q, %v, wanted %q, %v", shown(s), parts, got, want, e)
		}
		if e != api.OK && parts != nil {
			t.Fatalf("%q: a list beside the error %v", shown(s), e)
		}
		if e != api.OK {
			continue
		}
		if again, e := Join(parts); e != api.OK || again != s {
			t.Fatalf("%q, split into %q, is joined to %q, %v", s, parts, again, e)
		}
	}
	return e
}

// split holds that Split of a text has that error.
func split(t *testing.T, s string, want api.Errno) {
	t.Helper()
	if e := splits(t, s); e != want {
		t.Fatalf("the story says otherwise of %q: %v, %v", shown(s), e, want)
	}
}

// joins holds Join of a list against what the chapter says of it, and tells the error.
func joins(t *testing.T, parts []string) api.Errno {
	t.Helper()
	want, e := toldParts(parts)
	kept := slices.Clone(parts)
	for range 2 {
		s, got := Join(parts)
		if !slices.Equal(parts, kept) {
			t.Fatalf("%q was changed to %q", kept, parts)
		}
		if got != e || s != want {
			t.Fatalf("%.300q: %q, %v, wanted %q, %v", parts, s, got, want, e)
		}
		if e != api.OK {
			continue
		}
		if again, e := Split(s); e != api.OK || !slices.Equal(again, parts) {
			t.Fatalf("%q, joined to %q, is split into %q, %v", parts, s, again, e)
		}
	}
	return e
}

// join holds that Join of a list has that error.
func join(t *testing.T, parts []string, want api.Errno) {
	t.Helper()
	if e := joins(t, parts); e != want {
		t.Fatalf("the story says otherwise of %.300q: %v, %v", parts, e, want)
	}
}

// sized is so many components whose path has so many bytes; there have to be such.
func sized(t *testing.T, n, bytes int) []string {
	t.Helper()
	var parts []string
	for left := n; left > 0; left-- {
		// As many bytes as leave a slash and a byte for each of the others.
		k := min(32, bytes-1-2*(left-1))
		if k < 1 {
			t.Fatalf("no %d components have %d bytes", n, bytes)
		}
		parts = append(parts, times(k, one(byte('a'+len(parts)%26))))
		bytes -= 1 + k
	}
	if bytes != 0 {
		t.Fatalf("%d components leave %d bytes", n, bytes)
	}
	return parts
}

// laid is the text of components each preceded by a slash, whatever they are.
func laid(parts []string) string {
	s := ""
	for _, part := range parts {
		s += "/" + part
	}
	return s
}

// madeUpPart is a component that is made up.
func madeUpPart(from *rand.Rand) string {
	switch from.Intn(8) {
	case 0:
		return "."
	case 1:
		return ".."
	}
	b := make([]byte, 1+from.Intn(32)>>from.Intn(6))
	for {
		for i := range b {
			b[i] = byte(1 + from.Intn(255))
			if from.Intn(2) == 0 {
				b[i] = ".ab-0"[from.Intn(5)]
			}
		}
		if mayPart(string(b)) {
			return string(b)
		}
	}
}

// madeUp is components of a path that is made up, at least so many of them.
func madeUp(from *rand.Rand, least int) []string {
	n := least + from.Intn(17-least)
	var parts []string
	bytes := 0
	for len(parts) < n {
		part := madeUpPart(from)
		if bytes+1+len(part) > 256 {
			part = "a"
		}
		if bytes+1+len(part) > 256 {
			break
		}
		bytes += 1 + len(part)
		parts = append(parts, part)
	}
	return parts
}

// edges is the bytes next to those that are barred, the dot and the ends of what there is.
func edges() []byte { return []byte{0, 1, 45, 46, 47, 48, 128, 255} }

// some are components of paths, from none to the most, in as few and in as many bytes as there can be.
func some(t *testing.T) [][]string {
	out := [][]string{
		nil,
		{},
		{"."},
		{".."},
		{"a", "bc", ".."},
		{".", "a"},
		{"..", "..", ".", ".", "..."},
		{" ", ". .", " .", ". "},
		{"\xff\xfe", "\x01", "ü€", "\xc3", "\xbc"},
		{"a", "a", "A", "a", "-", "0"},
		many(16, "."),
		many(16, ".."),
	}
	for n := 1; n <= 16; n++ {
		out = append(out, sized(t, n, 2*n), sized(t, n, min(256, 33*n)), sized(t, n, min(255, 33*n-1)))
	}
	return out
}

// P13.1, P13.2: the chapter's examples.
func TestExamples(t *testing.T) {
	if parts, e := Split("/"); len(parts) != 0 || e != api.OK {
		t.Error(parts, e)
	}
	if parts, e := Split("/a/bc/.."); !slices.Equal(parts, []string{"a", "bc", ".."}) || e != api.OK {
		t.Error(parts, e)
	}
	for _, s := range []string{"/a//b", "/a/", "a/b", ""} {
		if parts, e := Split(s); parts != nil || e != api.ErrName {
			t.Errorf("%q: %q, %v", s, parts, e)
		}
	}
	for _, none := range [][]string{nil, {}} {
		if s, e := Join(none); s != "/" || e != api.OK {
			t.Error(s, e)
		}
	}
	if s, e := Join([]string{"a", "."}); s != "/a/." || e != api.OK {
		t.Error(s, e)
	}
	if s, e := Join([]string{""}); s != "" || e != api.ErrName {
		t.Error(s, e)
	}
	if s, e := Join(many(17, "a")); s != "" || e != api.ErrLong {
		t.Error(s, e)
	}
	if e := Check("a"); e != api.OK {
		t.Error(e)
	}
	for _, s := range []string{"..", times(33, "a"), ""} {
		if e := Check(s); e != api.ErrName {
			t.Errorf("%q: %v", s, e)
		}
	}
}

// P13.1, P13.2: names and components of every number of bytes, up to those that are far too long, of bytes of all kinds.
func TestNameLengths(t *testing.T) {
	for _, c := range []string{"a", "\x01", "-", "0", " ", "\x7f", "\x80", "\xff"} {
		for n := range 300 {
			s := times(n, c)
			ok := n >= 1 && n <= 32
			is(t, s, ok)
			want := api.OK
			if !ok {
				want = api.ErrName
			}
			join(t, []string{s}, want)
			join(t, []string{"a", s}, want)
			join(t, []string{s, "a"}, want)
			join(t, []string{"a", s, ".."}, want)
			if n < 250 && n > 0 {
				split(t, "/"+s, want)
				split(t, "/a/"+s, want)
				split(t, "/"+s+"/a", want)
				split(t, "/a/"+s+"/..", want)
			}
		}
	}
	for _, n := range []int{1 << 10, 1 << 16, 1 << 22} {
		for _, c := range []string{"a", "\x00", ".", "/", "\xff", "ü"} {
			s := times(n, c)
			is(t, s, false)
			join(t, []string{s}, api.ErrName)
			split(t, s, api.ErrLong)
			split(t, "/"+s, api.ErrLong)
		}
	}
	// Bytes are counted, not runes.
	is(t, times(16, "ü"), true)
	is(t, times(16, "ü")+"a", false)
	is(t, times(10, "€")+"ü", true)
	is(t, times(11, "€"), false)
}

// P13.1, P13.2: each byte at each place of a name, of a component and of a path, in names of all lengths.
func TestBytes(t *testing.T) {
	for n := 1; n <= 32; n++ {
		for at := range n {
			for _, c := range []string{"a", ".", "\xff"} {
				for b := range 256 {
					s := times(at, c) + one(byte(b)) + times(n-at-1, c)
					dots := n <= 2 && c == "." && b == 46 || n == 1 && b == 46
					is(t, s, b != 0 && b != 47 && !dots)
					want := api.OK
					if b == 0 || b == 47 {
						want = api.ErrName
					}
					join(t, []string{s}, want)
					join(t, []string{"a", s}, want)
					join(t, []string{s, "a"}, want)
				}
			}
		}
	}
}

// P13.2: each byte at each place of a path; a slash parts what it stands in, where something is left on both sides.
func TestBytesOfPaths(t *testing.T) {
	for _, parts := range some(t) {
		s := laid(parts)
		if s == "" {
			s = "/"
		}
		split(t, s, api.OK)
		for at := range len(s) {
			for _, b := range edges() {
				u := s[:at] + one(b) + s[at+1:]
				e := splits(t, u)
				if b == 0 && e != api.ErrName {
					t.Fatalf("%q: %v", u, e)
				}
				if at == 0 && b != 47 && e != api.ErrName {
					t.Fatalf("%q: %v", u, e)
				}
			}
		}
	}
	for _, b := range edges() {
		want := api.ErrName
		if b == 47 {
			want = api.OK
		}
		split(t, one(b), want)
		split(t, one(b)+"a", want)
		split(t, one(b)+"a/b", want)
	}
	// In the first, the middle and the last component, at the first, a middle and the last place.
	for _, b := range edges() {
		for _, part := range []string{one(b) + "bc", "a" + one(b) + "c", "ab" + one(b)} {
			want := api.OK
			if b == 0 || b == 47 {
				want = api.ErrName
			}
			// A slash in the middle makes two components of one; elsewhere it is the second of two, or the last byte of the path.
			wantPath := want
			if part == "a/c" {
				wantPath = api.OK
			}
			split(t, "/"+part, wantPath)
			split(t, "/"+part+"/x/y", wantPath)
			split(t, "/x/"+part+"/y", wantPath)
			split(t, "/x/y/"+part, wantPath)
			join(t, []string{part, "x", "y"}, want)
			join(t, []string{"x", part, "y"}, want)
			join(t, []string{"x", "y", part}, want)
		}
	}
}

// P13.1, P13.2: what is of dots, and what is like it.
func TestDots(t *testing.T) {
	for _, x := range []struct {
		s          string
		name, part bool
	}{
		{"", false, false},
		{".", false, true},
		{"..", false, true},
		{"...", true, true},
		{"....", true, true},
		{times(32, "."), true, true},
		{times(33, "."), false, false},
		{".a", true, true},
		{"a.", true, true},
		{"..a", true, true},
		{"a..", true, true},
		{". .", true, true},
		{". ", true, true},
		{" .", true, true},
		{" ..", true, true},
		{".. ", true, true},
		{"a", true, true},
		{"\x00", false, false},
		{".\x00", false, false},
		{"..\x00", false, false},
		{"\x00.", false, false},
		{"./", false, false},
		{"../", false, false},
		{"/.", false, false},
		{"/..", false, false},
		{"./..", false, false},
	} {
		is(t, x.s, x.name)
		want := api.ErrName
		if x.part {
			want = api.OK
		}
		join(t, []string{x.s}, want)
		join(t, []string{x.s, "a"}, want)
		join(t, []string{"a", x.s}, want)
		join(t, []string{x.s, x.s, x.s}, want)
		if x.part {
			split(t, "/"+x.s, api.OK)
			split(t, "/"+x.s+"/a", api.OK)
			split(t, "/a/"+x.s, api.OK)
			split(t, "/"+x.s+"/"+x.s, api.OK)
		}
	}
	// They are told as they stand, and nothing is left out for them.
	parts, e := Split("/../a/./../..")
	if !slices.Equal(parts, []string{"..", "a", ".", "..", ".."}) || e != api.OK {
		t.Error(parts, e)
	}
}

// P13.2: one slash and more of them, at the beginning, at the end and within; none at the beginning; nothing at all.
func TestSlashes(t *testing.T) {
	split(t, "", api.ErrName)
	split(t, "/", api.OK)
	for n := 2; n <= 256; n++ {
		split(t, times(n, "/"), api.ErrName)
		split(t, "a"+times(n-1, "/"), api.ErrName)
	}
	split(t, "/a", api.OK)
	for n := 2; n <= 255; n++ {
		split(t, times(n, "/")+"a", api.ErrName)
	}
	split(t, times(257, "/"), api.ErrLong)
	for _, parts := range some(t) {
		s := laid(parts)
		// A path of 256 bytes has no room for a slash more.
		short := len(s) < 256
		want := api.ErrLong
		if short {
			want = api.ErrName
		}
		if s == "" {
			continue
		}
		split(t, s, api.OK)
		split(t, s[1:], api.ErrName)
		split(t, s+"/", want)
		split(t, "/"+s, want)
		split(t, " "+s, want)
		split(t, s[1:]+"/", api.ErrName)
		for at := range len(s) {
			if s[at] != '/' {
				continue
			}
			split(t, s[:at]+"/"+s[at:], want)
			if len(s) < 255 {
				split(t, s[:at]+"//"+s[at:], api.ErrName)
			}
		}
	}
}

// P13.2: paths of all numbers of bytes, up to those that are far too long, of every number of components that they may have.
func TestPathLengths(t *testing.T) {
	for bytes := 2; bytes <= 300; bytes++ {
		want := api.OK
		if bytes > 256 {
			want = api.ErrLong
		}
		for n := (bytes + 32) / 33; 2*n <= bytes && n <= 16; n++ {
			parts := sized(t, n, bytes)
			split(t, laid(parts), want)
			join(t, parts, want)
			slices.Reverse(parts)
			split(t, laid(parts), want)
			join(t, parts, want)
		}
	}
	for _, n := range []int{257, 258, 512, 1 << 16, 1 << 22} {
		split(t, times(n, "/"), api.ErrLong)
		split(t, times(n, "a"), api.ErrLong)
		split(t, times(n, "\x00"), api.ErrLong)
		split(t, times((n+1)/2, "/a"), api.ErrLong)
		split(t, "/"+times(n, "."), api.ErrLong)
	}
	for _, n := range []int{31, 32} {
		join(t, many(16, times(n, "q")), api.ErrLong)
	}
}

// P13.2: paths and lists of every number of components.
func TestNumbers(t *testing.T) {
	for _, part := range []string{"a", ".", "..", "xyz", "\xff"} {
		for n := range 200 {
			want := api.OK
			if n > 16 {
				want = api.ErrLong
			}
			join(t, many(n, part), want)
			if n > 0 {
				split(t, times(n, "/"+part), want)
			}
		}
	}
	for _, n := range []int{128, 129, 1 << 10, 1 << 16, 1 << 20} {
		join(t, many(n, "a"), api.ErrLong)
		join(t, many(n, ""), api.ErrName)
		join(t, append(many(n, "a"), "/"), api.ErrName)
	}
}

// P13.2: texts with two faults or more, of which Split tells the first in the document's order.
func TestOrderOfSplit(t *testing.T) {
	// More than 256 bytes, and whatever else.
	for _, s := range []string{
		times(257, "a"),
		"a" + laid(sized(t, 8, 256)),
		laid(sized(t, 8, 256)) + "/",
		"/" + laid(sized(t, 8, 256)),
		times(257, "/"),
		times(257, "\x00"),
		"/" + times(256, "q"),
		times(129, "/a"),
		times(129, "/a") + "/",
		times(129, "a/"),
		times(128, "/a") + "\x00",
		"\x00" + times(128, "/a"),
		laid(sized(t, 16, 257)),
		laid(append(sized(t, 15, 223), times(33, "q"))),
		"/" + times(33, "q") + laid(sized(t, 7, 223)),
	} {
		if len(s) != 257 && len(s) != 258 && len(s) != 259 {
			t.Fatalf("%q has %d bytes", s, len(s))
		}
		split(t, s, api.ErrLong)
	}
	// No slash at the beginning, or an element that is no component, and more than 16 of them; in 256 bytes at most.
	for _, s := range []string{
		times(16, "/a") + "/",
		"/" + times(16, "/a"),
		times(8, "/a") + "/" + times(8, "/a"),
		times(17, "/a") + "/",
		"/" + times(17, "/a"),
		"a" + times(17, "/a"),
		times(17, "a/"),
		times(18, "/"),
		times(256, "/"),
		times(127, "/a") + "//",
		"//" + times(127, "/a"),
		times(128, "a/"),
		times(16, "/a") + "/" + times(33, "q"),
		"/" + times(33, "q") + times(16, "/a"),
		times(16, "/a") + "/\x00",
		"/\x00" + times(16, "/a"),
		"\x00" + times(17, "/a"),
		times(17, "/.") + "/",
	} {
		if len(s) > 256 {
			t.Fatalf("%q has %d bytes", s, len(s))
		}
		split(t, s, api.ErrName)
	}
	// More than 16 components, and nothing else.
	for n := 17; n <= 128; n++ {
		split(t, times(n, "/a"), api.ErrLong)
		for at := range n {
			s := times(at, "/a") + "/" + times(n-at-1, "/a")
			split(t, s, api.ErrName)
			split(t, times(at, "/a")+"/\x00"+times(n-at-1, "/a"), api.ErrName)
		}
	}
	split(t, laid(sized(t, 17, 256)), api.ErrLong)
	split(t, laid(sized(t, 17, 257)), api.ErrLong)
}

// P13.2: lists with two faults or more, of which Join tells the first in the document's order.
func TestOrderOfJoin(t *testing.T) {
	for _, bad := range []string{"", "/", "a/", "/a", "a/b", "\x00", "a\x00", times(33, "q"), times(300, "q"), times(33, ".")} {
		for _, parts := range [][]string{
			nil,
			{"a"},
			many(15, "a"),
			many(16, "a"),
			many(17, ".."),
			many(300, "a"),
			sized(t, 7, 224),
			sized(t, 8, 256),
			sized(t, 8, 257),
			sized(t, 8, 264),
			many(20, times(32, "q")),
		} {
			for at := range len(parts) + 1 {
				join(t, slices.Insert(slices.Clone(parts), at, bad), api.ErrName)
			}
		}
		join(t, many(16, bad), api.ErrName)
		join(t, many(17, bad), api.ErrName)
	}
	for n := 8; n <= 16; n++ {
		join(t, sized(t, n, 255), api.OK)
		join(t, sized(t, n, 256), api.OK)
		join(t, sized(t, n, 257), api.ErrLong)
	}
	join(t, sized(t, 17, 34), api.ErrLong)
	join(t, sized(t, 17, 256), api.ErrLong)
	join(t, sized(t, 17, 257), api.ErrLong)
}

// P13.1, P13.2, P13.3: all texts of few bytes, of those bytes that matter.
func TestAllShort(t *testing.T) {
	seen := map[api.Errno]int{}
	all := []string{""}
	for at := 0; at < len(all); at++ {
		s := all[at]
		checks(t, s)
		seen[splits(t, s)]++
		seen[splits(t, "/"+s)]++
		joins(t, []string{s})
		if len(s) < 7 {
			for _, b := range []string{"/", ".", "a", "\x00"} {
				all = append(all, s+b)
			}
		}
	}
	if seen[api.OK] < 1000 || seen[api.ErrName] < 10000 || len(seen) != 2 {
		t.Error("so many of each:", seen)
	}
	// All pairs and triples of what may stand between slashes.
	few := []string{"", ".", "..", "...", "a", ".a", "/", "\x00", times(32, "q"), times(33, "q")}
	for _, a := range few {
		for _, b := range few {
			joins(t, []string{a, b})
			splits(t, "/"+a+"/"+b)
			for _, c := range few {
				joins(t, []string{a, b, c})
				splits(t, "/"+a+"/"+b+"/"+c)
			}
		}
	}
}

// P13.3: a path without its last component is a path, and of one component less, down to the single slash.
func TestWithoutLast(t *testing.T) {
	from := rand.New(rand.NewSource(130))
	lists := some(t)
	for range 2000 {
		lists = append(lists, madeUp(from, 0))
	}
	for _, parts := range lists {
		s, e := Join(parts)
		if e != api.OK {
			t.Fatalf("%q: %v", parts, e)
		}
		for n := len(parts) - 1; n >= 0; n-- {
			s = s[:strings.LastIndex(s, "/")]
			if n == 0 {
				s = "/"
			}
			split(t, s, api.OK)
			got, _ := Split(s)
			if !slices.Equal(got, parts[:n]) {
				t.Fatalf("%q: %q, wanted %q", s, got, parts[:n])
			}
			join(t, parts[:n], api.OK)
		}
		if s != "/" {
			t.Fatalf("%q is left of %q", s, parts)
		}
	}
}

// P13.3: a path with one component more, where there is room for it and where there is none.
func TestWithOneMore(t *testing.T) {
	from := rand.New(rand.NewSource(131))
	lists := some(t)
	for range 2000 {
		lists = append(lists, madeUp(from, 0))
	}
	seen := map[api.Errno]int{}
	for _, parts := range lists {
		s := laid(parts)
		for _, part := range []string{"a", ".", "..", "xyz", times(31, "q"), times(32, "q"), times(33, "q"), "", "\x00", madeUpPart(from)} {
			longer := append(slices.Clone(parts), part)
			want := api.OK
			switch {
			case !mayPart(part):
				want = api.ErrName
			case len(parts) == 16 || len(s)+1+len(part) > 256:
				want = api.ErrLong
			}
			seen[want]++
			join(t, longer, want)
			// Where both are wrong, Split is the one that tells of the bytes first.
			if part != "" && len(s)+1+len(part) > 256 {
				want = api.ErrLong
			}
			if part != "" || len(s) > 0 && len(s) < 256 {
				split(t, s+"/"+part, want)
			}
		}
	}
	if seen[api.OK] < 5000 || seen[api.ErrLong] < 500 || seen[api.ErrName] < 5000 {
		t.Error("so many of each:", seen)
	}
	// As many bytes as there is room for, and one more.
	for room := 2; room <= 33; room++ {
		parts := sized(t, 10, 256-room)
		for n := 1; n <= 32; n++ {
			want := api.OK
			if n > room-1 {
				want = api.ErrLong
			}
			join(t, append(slices.Clone(parts), times(n, "z")), want)
			split(t, laid(parts)+"/"+times(n, "z"), want)
		}
	}
	join(t, append(sized(t, 10, 255), "z"), api.ErrLong)
	join(t, append(sized(t, 10, 256), "z"), api.ErrLong)
}

// behind holds two paths of at least one component each against the chapter's words, one behind the other.
func behind(t *testing.T, a, b []string) api.Errno {
	t.Helper()
	s, e := Join(a)
	u, f := Join(b)
	if e != api.OK || f != api.OK {
		t.Fatalf("%q, %q: %v, %v", a, b, e, f)
	}
	both := append(slices.Clone(a), b...)
	want := api.OK
	if len(both) > 16 || len(s)+len(u) > 256 {
		want = api.ErrLong
	}
	split(t, s+u, want)
	join(t, both, want)
	if want != api.OK {
		return want
	}
	if got, e := Split(s + u); e != api.OK || !slices.Equal(got, both) {
		t.Fatalf("%q and %q: %q, %v", s, u, got, e)
	}
	return want
}

// P13.3: two paths one behind the other, as long as the limits permit.
func TestBehind(t *testing.T) {
	for a := 1; a <= 16; a++ {
		for b := 1; b <= 16; b++ {
			want := api.OK
			if a+b > 16 {
				want = api.ErrLong
			}
			if e := behind(t, many(a, "a"), many(b, ".")); e != want {
				t.Errorf("%d and %d components: %v", a, b, e)
			}
		}
	}
	for _, x := range []struct {
		a, b int
		want api.Errno
	}{{8, 8, api.OK}, {8, 9, api.ErrLong}, {9, 8, api.ErrLong}, {1, 15, api.OK}, {1, 16, api.ErrLong}, {16, 1, api.ErrLong}} {
		if e := behind(t, many(x.a, "xy"), many(x.b, "..")); e != x.want {
			t.Errorf("%d and %d components: %v", x.a, x.b, e)
		}
	}
	for left := 16; left <= 239; left++ {
		for _, bytes := range []int{255, 256, 257, 258} {
			want := api.OK
			if bytes > 256 {
				want = api.ErrLong
			}
			if e := behind(t, sized(t, 8, left), sized(t, 8, bytes-left)); e != want {
				t.Errorf("%d and %d bytes: %v", left, bytes-left, e)
			}
		}
	}
	// The single slash has no component, and nothing can stand behind it, nor it behind anything.
	split(t, "//a", api.ErrName)
	split(t, "/a/", api.ErrName)
	split(t, "//", api.ErrName)
	from := rand.New(rand.NewSource(132))
	seen := map[api.Errno]int{}
	for range 5000 {
		seen[behind(t, madeUp(from, 1), madeUp(from, 1))]++
	}
	if seen[api.OK] < 500 || seen[api.ErrLong] < 500 {
		t.Error("so many of each:", seen)
	}
}

// P13.2, P13.3: paths that were made up, and the same changed in a few places.
func TestMadeUp(t *testing.T) {
	from := rand.New(rand.NewSource(133))
	seen := map[api.Errno]int{}
	for range 30000 {
		parts := madeUp(from, 0)
		if from.Intn(3) == 0 {
			parts = append(parts, madeUp(from, 0)...)
		}
		joins(t, parts)
		s := []byte(laid(parts))
		for range from.Intn(3) {
			if len(s) > 0 {
				s[from.Intn(len(s))] = edges()[from.Intn(8)]
			}
		}
		seen[splits(t, string(s))]++
		if len(parts) > 0 {
			at := from.Intn(len(parts))
			checks(t, parts[at])
			b := []byte(parts[at])
			b[from.Intn(len(b))] = edges()[from.Intn(8)]
			checks(t, string(b))
			parts[at] = string(b)
			joins(t, parts)
		}
	}
	if seen[api.OK] < 5000 || seen[api.ErrName] < 5000 || seen[api.ErrLong] < 2000 {
		t.Error("so many of each:", seen)
	}
	for range 20000 {
		b := make([]byte, from.Intn(300))
		for i := range b {
			b[i] = byte(from.Intn(256))
			if from.Intn(4) == 0 {
				b[i] = '/'
			}
		}
		splits(t, string(b))
		splits(t, "/"+string(b))
		checks(t, string(b))
		checks(t, string(b[:min(len(b), 3)]))
		joins(t, []string{string(b[:len(b)/2]), string(b[len(b)/2:])})
	}
}

// P13.2: unlike lists have unlike paths.
func TestUnlike(t *testing.T) {
	from := rand.New(rand.NewSource(134))
	seen := map[string][]string{}
	lists := some(t)
	for range 5000 {
		parts := madeUp(from, 0)
		lists = append(lists, parts)
		if len(parts) > 1 {
			swapped := slices.Clone(parts)
			swapped[0], swapped[1] = swapped[1], swapped[0]
			lists = append(lists, swapped)
		}
	}
	for _, parts := range lists {
		s, e := Join(parts)
		if e != api.OK {
			t.Fatalf("%q: %v", parts, e)
		}
		if other, ok := seen[s]; ok && !slices.Equal(other, parts) {
			t.Fatalf("%q and %q are both %q", other, parts, s)
		}
		seen[s] = parts
	}
}

// R4: a list that is passed stays as it is, with what lies behind it, and is not kept; one that is returned is new each time.
func TestLists(t *testing.T) {
	for _, parts := range some(t) {
		n := len(parts)
		room := append(slices.Clone(parts), "behind", "/", "")
		whole := slices.Clone(room)
		s, e := Join(room[:n])
		if e != api.OK || s != "/" && s != laid(parts) || !slices.Equal(room, whole) {
			t.Fatalf("%q: %q, %v, %q", parts, s, e, room)
		}
		y, _ := Split(s)
		z, _ := Split(s)
		for i := range y {
			y[i] = "changed"
		}
		y = append(y, "more")
		if !slices.Equal(z, parts) || !slices.Equal(room, whole) {
			t.Fatalf("%q shares its memory with what was returned: %q, %q", parts, z, y)
		}
		clear(room)
		again, e := Split(s)
		if e != api.OK || !slices.Equal(again, z) {
			t.Fatalf("what was passed is kept: %q, %v, %q", again, e, z)
		}
		// What other calls do leaves a list that was split before as it is.
		kept := slices.Clone(z)
		Split("/x/y/z")
		Join(many(16, "w"))
		Split("//")
		Join(append(many(5, "w"), ""))
		if !slices.Equal(z, kept) {
			t.Fatalf("%q was changed to %q", kept, z)
		}
	}
	// A list that is refused stays as it is, too.
	for _, bad := range [][]string{{"b", "", "a"}, {"b", "a/"}, many(17, "a"), sized(t, 8, 257), append(many(17, "a"), "\x00")} {
		kept := slices.Clone(bad)
		if s, e := Join(bad); s != "" || e == api.OK || !slices.Equal(bad, kept) {
			t.Errorf("%q, %v, %q", s, e, bad)
		}
	}
}

// R2: what was refused changes nothing of what comes behind, and the same call answers the same.
func TestOneBehindTheOther(t *testing.T) {
	for _, s := range []string{"", "a", "//", "/a/", "/a//b", times(17, "/a"), times(257, "/"), "/\x00", "/" + times(33, "q")} {
		if splits(t, s) == api.OK || joins(t, []string{"a", "", s}) == api.OK {
			t.Fatalf("%q", s)
		}
		is(t, s, s == "a")
		split(t, "/", api.OK)
		split(t, "/a/bc/..", api.OK)
		join(t, []string{"a", "."}, api.OK)
		join(t, nil, api.OK)
		is(t, "a", true)
		is(t, "..", false)
	}
}
