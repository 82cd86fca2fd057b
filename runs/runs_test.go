package runs

import (
	"math"
	"math/bits"
	"math/rand"
	"slices"
	"testing"

	"glissade/api"
)

// list is a list of runs, each told by Start and Len.
func list(n ...int) []api.Run {
	var l []api.Run
	for i := 0; i < len(n); i += 2 {
		l = append(l, api.Run{Start: n[i], Len: n[i+1]})
	}
	return l
}

// isValid is the chapter's term, told in 128 bits.
func isValid(r api.Run) bool {
	if r.Start < 0 || r.Len < 1 {
		return false
	}
	sum, carry := bits.Add64(uint64(r.Start), uint64(r.Len), 0)
	return carry == 0 && sum <= math.MaxInt
}

// few are the elements of l below 64, as a word's bits: found one by one.
func few(l []api.Run) uint64 {
	var w uint64
	for _, r := range l {
		if !isValid(r) {
			continue
		}
		for i := range 64 {
			if i >= r.Start && uint64(i) < uint64(r.Start)+uint64(r.Len) {
				w |= 1 << i
			}
		}
	}
	return w
}

// plain is the normal form of a word's bits, element by element.
func plain(w uint64) []api.Run {
	var l []api.Run
	for i := range 64 {
		if w>>i&1 == 0 {
			continue
		}
		if i > 0 && w>>(i-1)&1 == 1 {
			l[len(l)-1].Len++
			continue
		}
		l = append(l, api.Run{Start: i, Len: 1})
	}
	return l
}

// small are lists whose elements lie below 64: of valid runs and others, in any order.
func small() [][]api.Run {
	l := [][]api.Run{
		nil, {}, list(0, 1), list(0, 64), list(63, 1), list(0, 2, 3, 1), list(0, 2, 2, 1), list(0, 0), list(-1, 5),
		list(5, 2, 0, 1, 6, 3, 1, 1, 9, 0), list(0, 10), list(3, 2, 9, 4), list(2, 3), list(5, 2, 0, 1, 6, 3),
		list(7, 3, 7, 3), list(7, 3, 7, 2), list(7, 2, 7, 3), list(0, 20, 3, 2, 8, 1), list(3, 2, 8, 1, 0, 20),
		list(math.MinInt, math.MinInt), list(math.MaxInt, math.MaxInt), list(math.MinInt, math.MaxInt), list(math.MaxInt, math.MinInt),
		list(math.MaxInt, 1), list(1, math.MaxInt), list(2, math.MaxInt-1), list(math.MinInt, 5, 3, 2, 4, math.MinInt), list(-3, 10, 5, 1, 6, -1, 7, 1),
		list(1, 1, 3, 1, 5, 1, 7, 1), list(0, 1, 2, 1, 4, 1, 6, 1), list(0, 32, 32, 32), list(10, 4, 15, 4, 14, 1),
	}
	r := rand.New(rand.NewSource(4))
	for n := range 90 {
		var x []api.Run
		for range r.Intn(7) {
			start := r.Intn(64)
			length := r.Intn(min(64-start, 3+n%20)) + 1
			switch r.Intn(9) {
			case 0:
				start = -1 - r.Intn(9)
			case 1:
				length = -r.Intn(9)
			case 2:
				if start > 0 {
					length = math.MaxInt - r.Intn(start)
				}
			}
			x = append(x, api.Run{Start: start, Len: length})
		}
		l = append(l, x)
	}
	return l
}

// normalByWords is the chapter's term of a normal list.
func normalByWords(l []api.Run) bool {
	for i, r := range l {
		if !isValid(r) {
			return false
		}
		if i == 0 {
			continue
		}
		last := uint64(l[i-1].Start) + uint64(l[i-1].Len) - 1
		if uint64(r.Start) < last+2 {
			return false
		}
	}
	return true
}

func same(t *testing.T, what string, got, want []api.Run) {
	t.Helper()
	if !slices.Equal(got, want) {
		t.Fatalf("%s: %v; want %v", what, got, want)
	}
}

// P4.1: Check, of the chapter's examples and of the edges that it names.
func TestCheck(t *testing.T) {
	for _, x := range []struct {
		l    []api.Run
		want bool
	}{
		{list(0, 2, 3, 1), true}, {list(0, 2, 2, 1), false}, {list(0, 0), false}, {list(-1, 5), false},
		{nil, true}, {list(), true}, {list(0, 1), true}, {list(7, 1), true}, {list(0, 2, 1, 1), false}, {list(0, 2, 0, 2), false},
		{list(3, 1, 0, 1), false}, {list(3, 1, 0, 2), false}, {list(0, 9, 3, 2), false}, {list(5, 1, 5, 1), false},
		{list(0, 1, 2, 1, 4, 1), true}, {list(0, 1, 2, 1, 3, 1), false}, {list(0, 1, 3, -1), false}, {list(0, 1, 3, 0, 5, 1), false},
		{list(0, math.MaxInt), true}, {list(1, math.MaxInt), false}, {list(1, math.MaxInt-1), true}, {list(2, math.MaxInt-1), false},
		{list(math.MaxInt, 1), false}, {list(math.MaxInt-1, 1), true}, {list(math.MaxInt-1, 2), false}, {list(math.MaxInt, 0), false},
		{list(math.MaxInt, math.MaxInt), false}, {list(math.MinInt, 1), false}, {list(math.MinInt, math.MaxInt), false},
		{list(math.MinInt, math.MinInt), false}, {list(0, math.MinInt), false}, {list(-1, 1), false}, {list(3, math.MinInt), false},
		{list(0, math.MaxInt-2, math.MaxInt-1, 1), true}, {list(0, math.MaxInt-1, math.MaxInt-1, 1), false}, {list(0, math.MaxInt, math.MaxInt, 1), false},
	} {
		if Check(x.l) != x.want {
			t.Errorf("Check(%v) = %v", x.l, !x.want)
		}
	}
	for _, l := range small() {
		if Check(l) != normalByWords(l) {
			t.Errorf("Check(%v) = %v", l, Check(l))
		}
	}
}

// P4.1: Normal, against the elements one by one, and of runs beyond them.
func TestNormal(t *testing.T) {
	for _, l := range small() {
		same(t, "Normal", Normal(l), plain(few(l)))
	}
	for _, x := range []struct{ l, want []api.Run }{
		{list(5, 2, 0, 1, 6, 3, 1, 1, 9, 0), list(0, 2, 5, 4)},
		{list(math.MaxInt-1, 1, 0, 1), list(0, 1, math.MaxInt-1, 1)},
		{list(math.MaxInt-1, 1, 0, math.MaxInt-1), list(0, math.MaxInt)},
		{list(math.MaxInt-2, 2, math.MaxInt-3, 1), list(math.MaxInt-3, 3)},
		{list(0, math.MaxInt, 0, math.MaxInt, 7, 1), list(0, math.MaxInt)},
		{list(9, math.MaxInt-9, 0, 8), list(0, 8, 9, math.MaxInt-9)},
		{list(9, math.MaxInt-9, 0, 9), list(0, math.MaxInt)},
		{list(9, math.MaxInt-8, 0, 9), list(0, 9)},
		{list(math.MaxInt, 1, math.MaxInt, 0, math.MinInt, 1), nil},
	} {
		same(t, "Normal", Normal(x.l), x.want)
	}
}

// P4.4: Normal leaves a normal list as it is, but in memory of its own (R4).
func TestNormalAgain(t *testing.T) {
	for _, l := range append(small(), list(0, math.MaxInt), list(0, 1, math.MaxInt-1, 1)) {
		normal := Normal(l)
		if !Check(normal) || !normalByWords(normal) {
			t.Fatalf("Normal(%v) = %v is not normal", l, normal)
		}
		again := Normal(normal)
		same(t, "Normal of it", again, normal)
		if len(normal) > 0 && &again[0] == &normal[0] {
			t.Fatalf("Normal(%v) is the list itself", normal)
		}
	}
}

// P4.2: the chapter's examples.
func TestSetExamples(t *testing.T) {
	a, b := list(0, 10), list(3, 2, 9, 4)
	same(t, "Minus", Minus(a, b), list(0, 3, 5, 4))
	same(t, "Meet", Meet(a, b), list(3, 2, 9, 1))
	same(t, "Union", Union(a, b), list(0, 13))
	same(t, "Minus", Minus(b, a), list(10, 3))
	same(t, "Complement", Complement(list(2, 3), 7), list(0, 2, 5, 2))
	same(t, "Complement", Complement(list(2, 3), 0), nil)
}

// P4.2, P4.4: the sets against words of 64 bits, their laws and those of Count.
func TestSets(t *testing.T) {
	lists := small()
	for _, a := range lists {
		for _, b := range lists {
			x, y := few(a), few(b)
			union, minus, meet := Union(a, b), Minus(a, b), Meet(a, b)
			same(t, "Union", union, plain(x|y))
			same(t, "Minus", minus, plain(x&^y))
			same(t, "Meet", meet, plain(x&y))
			if Count(union)+Count(meet) != Count(a)+Count(b) || Count(minus)+Count(meet) != Count(a) {
				t.Fatalf("%v and %v: Count(Union) is %d, Count(Meet) %d, Count(Minus) %d", a, b, Count(union), Count(meet), Count(minus))
			}
			same(t, "Union of the parts", Union(minus, meet), Normal(a))
			same(t, "Meet by Minus", Minus(a, minus), meet)
			same(t, "De Morgan", Complement(union, 64), Meet(Complement(a, 64), Complement(b, 64)))
		}
	}
}

// P4.2: runs as far up as an int goes.
func TestSetsFar(t *testing.T) {
	all := list(0, math.MaxInt)
	for _, a := range [][]api.Run{nil, all, list(5, 1), list(math.MaxInt-1, 1), list(0, 1, math.MaxInt-3, 3), list(9, math.MaxInt-9), list(0, math.MaxInt-1)} {
		rest := Complement(a, math.MaxInt)
		same(t, "Union with all", Union(a, all), all)
		same(t, "Union with its rest", Union(a, rest), all)
		same(t, "Meet with all", Meet(a, all), a)
		same(t, "Meet with its rest", Meet(a, rest), nil)
		same(t, "Minus all", Minus(a, all), nil)
		same(t, "all Minus", Minus(all, a), rest)
		same(t, "Minus nothing", Minus(a, list(math.MaxInt, 1, 3, math.MaxInt, -1, 9)), a)
		same(t, "its rest's rest", Complement(rest, math.MaxInt), a)
		if Count(a)+Count(rest) != math.MaxInt {
			t.Errorf("%v and %v have %d and %d", a, rest, Count(a), Count(rest))
		}
	}
	same(t, "Minus", Minus(list(5, math.MaxInt-5), list(7, math.MaxInt-8)), list(5, 2, math.MaxInt-1, 1))
	same(t, "Meet", Meet(list(0, 5, math.MaxInt-1, 1), list(3, math.MaxInt-3)), list(3, 2, math.MaxInt-1, 1))
	same(t, "Union", Union(list(0, 5, 7, 1), list(9, math.MaxInt-9)), list(0, 5, 7, 1, 9, math.MaxInt-9))
}

// P4.2: Complement for an n below 1, within a run, between two, and behind all.
func TestComplement(t *testing.T) {
	for _, l := range small() {
		for n := -3; n <= 64; n++ {
			first := uint64(1)<<max(n, 0) - 1
			same(t, "Complement", Complement(l, n), plain(first&^few(l)))
		}
		for _, n := range []int{math.MinInt, math.MinInt + 1, -64} {
			same(t, "Complement", Complement(l, n), nil)
		}
		for _, n := range []int{65, 99, 1 << 40, math.MaxInt - 1, math.MaxInt} {
			want := Union(plain(^few(l)), list(64, n-64))
			same(t, "Complement", Complement(l, n), want)
		}
	}
	for _, x := range []struct {
		l    []api.Run
		n    int
		want []api.Run
	}{
		{nil, math.MaxInt, list(0, math.MaxInt)}, {nil, math.MinInt, nil}, {nil, 1, list(0, 1)}, {nil, 0, nil},
		{list(0, math.MaxInt), math.MaxInt, nil}, {list(0, math.MaxInt-1), math.MaxInt, list(math.MaxInt-1, 1)},
		{list(0, math.MaxInt-1), math.MaxInt - 1, nil}, {list(math.MaxInt-1, 1), math.MaxInt, list(0, math.MaxInt-1)},
		{list(math.MaxInt-1, 1), math.MaxInt - 1, list(0, math.MaxInt-1)}, {list(math.MaxInt, 1), math.MaxInt, list(0, math.MaxInt)},
		{list(3, math.MaxInt-3), math.MaxInt, list(0, 3)}, {list(3, math.MaxInt-3), 3, list(0, 3)}, {list(3, math.MaxInt-3), 4, list(0, 3)}, {list(3, math.MaxInt-3), 2, list(0, 2)},
	} {
		same(t, "Complement", Complement(x.l, x.n), x.want)
	}
}

// P4.3: Has, of each element and of those right ahead of a run and right behind it.
func TestHas(t *testing.T) {
	for _, l := range small() {
		w := few(l)
		for i := -3; i < 70; i++ {
			want := i >= 0 && i < 64 && w>>i&1 == 1
			if Has(l, i) != want {
				t.Fatalf("Has(%v, %d) = %v", l, i, !want)
			}
		}
		for _, i := range []int{math.MinInt, math.MinInt + 1, 1 << 40, math.MaxInt - 1, math.MaxInt} {
			if Has(l, i) {
				t.Fatalf("Has(%v, %d)", l, i)
			}
		}
	}
	for _, x := range []struct {
		l    []api.Run
		i    int
		want bool
	}{
		{list(5, 2, 0, 1, 6, 3), 8, true}, {list(5, 2, 0, 1, 6, 3), 9, false}, {list(5, 2, 0, 1, 6, 3), 4, false}, {list(5, 2, 0, 1, 6, 3), 0, true},
		{list(0, math.MaxInt), math.MaxInt - 1, true}, {list(0, math.MaxInt), math.MaxInt, false}, {list(0, math.MaxInt), 0, true}, {list(0, math.MaxInt), -1, false},
		{list(math.MaxInt-1, 1), math.MaxInt - 1, true}, {list(math.MaxInt-1, 1), math.MaxInt, false}, {list(math.MaxInt-1, 1), math.MaxInt - 2, false},
		{list(math.MaxInt, 1), math.MaxInt, false}, {list(math.MaxInt-1, 2), math.MaxInt - 1, false}, {list(1, math.MaxInt), 5, false}, {list(-5, 9), 0, false}, {list(-5, 9), -3, false},
		{list(math.MinInt, math.MaxInt), math.MinInt, false}, {list(math.MinInt, math.MinInt), -1, false}, {list(math.MaxInt, math.MaxInt), math.MinInt, false},
	} {
		if Has(x.l, x.i) != x.want {
			t.Errorf("Has(%v, %d) = %v", x.l, x.i, !x.want)
		}
	}
}

// P4.3: Count, Lengths and Largest.
func TestLengths(t *testing.T) {
	for _, l := range small() {
		var lengths []int
		count := 0
		for _, r := range plain(few(l)) {
			lengths = append(lengths, r.Len)
			count += r.Len
		}
		slices.Sort(lengths)
		largest := 0
		if len(lengths) > 0 {
			largest = lengths[len(lengths)-1]
		}
		if Count(l) != count || !slices.Equal(Lengths(l), lengths) || Largest(l) != largest {
			t.Fatalf("%v: Count %d, Lengths %v, Largest %d", l, Count(l), Lengths(l), Largest(l))
		}
	}
	for _, x := range []struct {
		l       []api.Run
		count   int
		lengths []int
	}{
		{nil, 0, nil},
		{list(3, -1, 0, 0, -4, 5, math.MaxInt, 1), 0, nil},
		{list(5, 2, 0, 1, 6, 3), 5, []int{1, 4}},
		{list(9, 2, 0, 1, 4, 2, 20, 1), 6, []int{1, 1, 2, 2}},
		{list(0, math.MaxInt), math.MaxInt, []int{math.MaxInt}},
		{list(7, math.MaxInt-7, 0, 6, 0, 6), math.MaxInt - 1, []int{6, math.MaxInt - 7}},
		{list(0, math.MaxInt, 0, math.MaxInt, 9, math.MaxInt-9), math.MaxInt, []int{math.MaxInt}},
	} {
		largest := 0
		if len(x.lengths) > 0 {
			largest = x.lengths[len(x.lengths)-1]
		}
		if Count(x.l) != x.count || !slices.Equal(Lengths(x.l), x.lengths) || Largest(x.l) != largest {
			t.Errorf("%v: Count %d, Lengths %v, Largest %d", x.l, Count(x.l), Lengths(x.l), Largest(x.l))
		}
	}
}

// P4.4: other runs, another order, runs told twice and runs that are not valid change no answer but Check's.
func TestDescription(t *testing.T) {
	r := rand.New(rand.NewSource(44))
	other := list(4, 9, 60, 3)
	for _, l := range small() {
		shuffled := append(slices.Clone(l), l...)
		shuffled = append(shuffled, list(0, 0, -2, 9, math.MaxInt, 1, 8, math.MaxInt)...)
		for _, x := range plain(few(l)) {
			shuffled = append(shuffled, api.Run{Start: x.Start, Len: x.Len/2 + x.Len%2}, api.Run{Start: x.Start + x.Len/2, Len: x.Len/2 + x.Len%2})
		}
		r.Shuffle(len(shuffled), func(i, j int) { shuffled[i], shuffled[j] = shuffled[j], shuffled[i] })
		same(t, "Normal", Normal(shuffled), Normal(l))
		same(t, "Union", Union(shuffled, other), Union(l, other))
		same(t, "Union", Union(other, shuffled), Union(other, l))
		same(t, "Minus", Minus(shuffled, other), Minus(l, other))
		same(t, "Minus", Minus(other, shuffled), Minus(other, l))
		same(t, "Meet", Meet(shuffled, other), Meet(l, other))
		same(t, "Meet", Meet(other, shuffled), Meet(other, l))
		same(t, "Complement", Complement(shuffled, 50), Complement(l, 50))
		if Count(shuffled) != Count(l) || Largest(shuffled) != Largest(l) || !slices.Equal(Lengths(shuffled), Lengths(l)) {
			t.Fatalf("%v: Count %d, Largest %d, Lengths %v", shuffled, Count(shuffled), Largest(shuffled), Lengths(shuffled))
		}
		for i := range 64 {
			if Has(shuffled, i) != Has(l, i) {
				t.Fatalf("Has(%v, %d)", shuffled, i)
			}
		}
	}
}

// guarded is a list with more room than it needs, filled, so that a write behind its end is seen.
func guarded(l []api.Run) []api.Run {
	room := append(slices.Clone(l), list(11, 11, 22, 22, 33, 33, 44, 44)...)
	return room[:len(l)]
}

// R2, R4: lists that are handed in read behind a call as ahead of it, answers are new memory, and the same call tells the same again.
func TestListsKept(t *testing.T) {
	lists := []func(a, b []api.Run) []api.Run{
		Union, Minus, Meet,
		func(a, b []api.Run) []api.Run { return Normal(a) },
		func(a, b []api.Run) []api.Run { return Complement(a, 40) },
	}
	for _, a := range small() {
		for _, b := range [][]api.Run{nil, a, list(9, 9, 1, 2, 60, 1), list(0, 64)} {
			x, y := guarded(a), guarded(b)
			for i, f := range lists {
				got := f(x, y)
				want := slices.Clone(got)
				for j := range got {
					got[j] = api.Run{Start: -7, Len: -7}
				}
				same(t, "the same call", f(x, y), want)
				same(t, "the first list", x, a)
				same(t, "the second list", y, b)
				if i == 0 {
					Check(x)
					Has(x, 3)
					Count(x)
					Largest(x)
					lengths := Lengths(x)
					for j := range lengths {
						lengths[j] = -7
					}
				}
			}
			same(t, "behind the first list", x[:len(a)+4][len(a):], list(11, 11, 22, 22, 33, 33, 44, 44))
			same(t, "behind the second list", y[:len(b)+4][len(b):], list(11, 11, 22, 22, 33, 33, 44, 44))
			same(t, "the first list", x, a)
		}
	}
}
