package merge_test

import (
	"math/rand"
	"slices"
	"testing"

	"vestry/api"
	"vestry/merge"
	"vestry/tuple"
)

// of returns a tuple whose place in the order is that of a number.
func of(n int) api.Tuple {
	digit := func(place int) string { return string(rune('a' + n/place%3)) }
	x := api.Tuple{Object: api.Object{Type: digit(243), ID: digit(81)}, Relation: digit(27), Subject: api.Object{Type: digit(9), ID: digit(3)}}
	if n%3 > 0 {
		x.Userset = digit(1)
	}
	return x
}

// list returns the tuples of numbers.
func list(numbers ...int) (l []api.Tuple) {
	for _, n := range numbers {
		l = append(l, of(n))
	}
	return l
}

// chance returns a sorted list by chance.
func chance(r *rand.Rand) []api.Tuple {
	var l []api.Tuple
	for range r.Intn(30) {
		l = append(l, of(r.Intn(40)*r.Intn(18)))
	}
	return tuple.Sorted(l...)
}

// set returns the tuples of a list, as the keys of a map.
func set(l []api.Tuple) map[api.Tuple]bool {
	m := map[api.Tuple]bool{}
	for _, t := range l {
		m[t] = true
	}
	return m
}

// P23.1
func TestSorted(t *testing.T) {
	for i, l := range [][]api.Tuple{nil, list(5), list(1, 2), list(0, 1, 2, 3, 9, 27, 81, 243, 728), {{}, of(0)}} {
		if !merge.Sorted(l) {
			t.Error(i)
		}
	}
	for i, l := range [][]api.Tuple{list(5, 5), list(2, 1), list(1, 2, 2), list(1, 3, 2), list(0, 1, 2, 3, 4, 4), list(4, 1, 2, 3), {of(0), {}}} {
		if merge.Sorted(l) {
			t.Error(i)
		}
	}
}

// P23.1, P23.5
func TestUnion(t *testing.T) {
	if got := merge.Union(list(1, 2), list(2, 3)); !slices.Equal(got, list(1, 2, 3)) {
		t.Error(got)
	}
	if len(merge.Union()) != 0 || len(merge.Union(nil, nil)) != 0 {
		t.Error("no tuples")
	}
	only := list(4, 5)
	got := merge.Union(only)
	if !slices.Equal(got, only) {
		t.Error(got)
	}
	if got[0] = of(7); only[0] != of(4) {
		t.Error("the list is not new")
	}
	r := rand.New(rand.NewSource(23))
	for range 300 {
		var l [][]api.Tuple
		var all []api.Tuple
		for range r.Intn(6) {
			one := chance(r)
			l, all = append(l, one), append(all, one...)
		}
		kept := make([][]api.Tuple, len(l))
		for i := range l {
			kept[i] = slices.Clone(l[i])
		}
		want := tuple.Sorted(all...)
		if got := merge.Union(l...); !slices.Equal(got, want) {
			t.Fatal(got, want)
		}
		for i := range l {
			if !slices.Equal(l[i], kept[i]) {
				t.Fatal("a list was changed")
			}
		}
		r.Shuffle(len(l), func(i, k int) { l[i], l[k] = l[k], l[i] })
		if got := merge.Union(l...); !slices.Equal(got, want) {
			t.Fatal("in another order:", got, want)
		}
	}
}

// P23.1
func TestMinusAndHas(t *testing.T) {
	for _, x := range [][3][]api.Tuple{
		{list(1, 2, 3), list(2), list(1, 3)}, {list(1, 2), list(1, 2), nil}, {list(1, 2), nil, list(1, 2)}, {nil, list(1), nil}, {list(5), list(1, 2, 3, 9), list(5)}, {list(1, 5, 9), list(0, 1, 2, 9, 10), list(5)},
	} {
		if got := merge.Minus(x[0], x[1]); !slices.Equal(got, x[2]) {
			t.Error(x, got)
		}
	}
	a := list(1, 2)
	if got := merge.Minus(a, nil); &got[0] == &a[0] {
		t.Error("the list is not new")
	}
	r := rand.New(rand.NewSource(24))
	for range 300 {
		a, b := chance(r), chance(r)
		inA, inB := set(a), set(b)
		var want []api.Tuple
		for _, x := range a {
			if !inB[x] {
				want = append(want, x)
			}
		}
		if got := merge.Minus(a, b); !slices.Equal(got, want) {
			t.Fatal(a, b, got)
		}
		for n := range 700 {
			if merge.Has(a, of(n)) != inA[of(n)] {
				t.Fatal(a, n)
			}
		}
	}
	if merge.Has(nil, of(0)) || merge.Has(list(0), api.Tuple{}) {
		t.Error("what is not in a list")
	}
}

// P23.2
func TestFold(t *testing.T) {
	touch := func(n int) api.Change { return api.Change{Tuple: of(n)} }
	remove := func(n int) api.Change { return api.Change{Tuple: of(n), Delete: true, Revision: 9} }
	for i, x := range []struct {
		l    []api.Tuple
		c    []api.Change
		want []api.Tuple
	}{
		{nil, nil, nil},
		{list(1, 3), nil, list(1, 3)},
		{list(1, 3), []api.Change{touch(2)}, list(1, 2, 3)},
		{list(1, 3), []api.Change{touch(3), touch(3)}, list(1, 3)},
		{list(1, 3), []api.Change{remove(3), remove(9)}, list(1)},
		{list(1, 3), []api.Change{touch(2), remove(2)}, list(1, 3)},
		{list(1, 3), []api.Change{remove(3), touch(3)}, list(1, 3)},
		{list(1, 3), []api.Change{remove(1), touch(1), remove(1), touch(0)}, list(0, 3)},
		{nil, []api.Change{remove(2), touch(2)}, list(2)},
		{nil, []api.Change{touch(5), touch(4), remove(6)}, list(4, 5)},
	} {
		before := slices.Clone(x.l)
		if got := merge.Fold(x.l, x.c...); !slices.Equal(got, x.want) || !slices.Equal(x.l, before) {
			t.Error(i, got)
		}
	}
	r := rand.New(rand.NewSource(25))
	for range 300 {
		l := chance(r)
		want := set(l)
		var c []api.Change
		for range r.Intn(20) {
			x := api.Change{Revision: uint64(r.Intn(9)), Delete: r.Intn(2) == 0, Tuple: of(r.Intn(40) * r.Intn(18))}
			if c = append(c, x); x.Delete {
				delete(want, x.Tuple)
			} else {
				want[x.Tuple] = true
			}
		}
		got := merge.Fold(l, c...)
		if len(got) != len(want) || !merge.Sorted(got) {
			t.Fatal(l, c, got)
		}
		for _, x := range got {
			if !want[x] {
				t.Fatal(l, c, got)
			}
		}
	}
	only := list(4, 5)
	if got := merge.Fold(only); &got[0] == &only[0] {
		t.Error("the list is not new")
	}
}

// P23.3, P23.5
func TestDiff(t *testing.T) {
	touched, deleted := merge.Diff(list(1, 2, 5), list(2, 3, 4))
	if !slices.Equal(touched, list(3, 4)) || !slices.Equal(deleted, list(1, 5)) {
		t.Error(touched, deleted)
	}
	if touched, deleted := merge.Diff(nil, nil); len(touched) != 0 || len(deleted) != 0 {
		t.Error(touched, deleted)
	}
	r := rand.New(rand.NewSource(26))
	for range 300 {
		a, b := chance(r), chance(r)
		touched, deleted := merge.Diff(a, b)
		if !slices.Equal(touched, merge.Minus(b, a)) || !slices.Equal(deleted, merge.Minus(a, b)) {
			t.Fatal(a, b, touched, deleted)
		}
		var c []api.Change
		for _, x := range touched {
			c = append(c, api.Change{Tuple: x})
		}
		for _, x := range deleted {
			c = append(c, api.Change{Tuple: x, Delete: true})
		}
		r.Shuffle(len(c), func(i, k int) { c[i], c[k] = c[k], c[i] })
		if got := merge.Fold(a, c...); !slices.Equal(got, b) {
			t.Fatal(a, b, got)
		}
	}
}

// P23.4
func TestRange(t *testing.T) {
	r := rand.New(rand.NewSource(27))
	for range 100 {
		l := chance(r)
		for n := 0; n < 729; n += 81 {
			o := of(n).Object
			var want []api.Tuple
			for _, x := range l {
				if x.Object == o {
					want = append(want, x)
				}
			}
			if got := merge.Range(l, o); !slices.Equal(got, want) {
				t.Fatal(l, o, got)
			}
		}
		for _, o := range []api.Object{{}, {Type: "a"}, {ID: "a"}, {Type: "z", ID: "z"}, {Type: "a", ID: "aa"}, {Type: "aa", ID: "a"}} {
			if got := merge.Range(l, o); len(got) != 0 {
				t.Fatal(o, got)
			}
		}
	}
	l := list(0, 1, 2, 100)
	if got := merge.Range(l, of(0).Object); len(got) != 3 || &got[0] == &l[0] {
		t.Error("the list is not new:", got)
	}
	got := merge.Range(l, of(0).Object)
	if _ = append(got, of(5)); l[3] != of(100) {
		t.Error("the list was changed")
	}
}
