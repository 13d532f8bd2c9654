package setup_test

import (
	"fmt"
	"reflect"
	"testing"

	"seesaw/api"
	"seesaw/code"
	"seesaw/sample"
	"seesaw/setup"
)

// Short names of what is made for tests.
var (
	lit, got         = sample.Lit, sample.Got
	set, leave       = sample.Set, sample.Return
	orElse, block    = sample.OrElse, sample.Block
	retries, costing = sample.Retries, sample.Costing
	of, bad          = sample.Running, sample.Bad
	most, rich, mays = sample.Most, sample.Rich, sample.Setups
	wild             = sample.Wild
)

// tx is a transaction, thread are some of them.
type (
	tx     = []api.Stmt
	thread = []tx
)

// empty are so many empty transactions.
func empty(many int) thread { return make(thread, many) }

// behind is a thread of one transaction, and so many others ahead of it.
func behind(many int, last tx) thread { return append(empty(many), last) }

// odd are setups of any kind, that may be or not, no two of them the same.
func odd() []api.Setup {
	l := []api.Setup{
		{}, {Stripes: 1}, {Stripes: -1}, {Clock: 1}, {Clock: -1}, {Tries: 1}, {Tries: -1}, {Stripes: 1 << 32}, {Clock: 1 << 32}, {Tries: 1 << 32},
		{Init: []int64{0}}, {Init: []int64{1}}, {Init: []int64{0, 0}}, {Init: []int64{1, 0}}, {Init: []int64{0, 1}}, {Init: []int64{1 << 32}}, {Init: make([]int64, 33)},
		{Threads: []thread{{}}}, {Threads: []thread{{}, {}}}, {Threads: []thread{{{}}}}, {Threads: []thread{{{}, {}}}}, {Threads: []thread{{{}}, {}}}, {Threads: []thread{{}, {{}}}},
		{Threads: []thread{{{}}, {{}}}}, {Threads: []thread{{{{}}}}}, {Threads: []thread{{{{}, {}}}}}, {Threads: []thread{{{{}}, {}}}}, {Threads: []thread{{{}, {{}}}}}, {Threads: []thread{{{{}}}, {}}},
		{Threads: []thread{{{{}}}, {{{}}}}}, {Threads: []thread{{{{}}, {{}}}}}, {Threads: []thread{{{{Kind: 9}}}}}, {Threads: make([]thread, 7)}, {Threads: []thread{empty(7)}}, rich(), most(),
	}
	for _, b := range bad() {
		l = append(l, of(thread{b}), of(thread{retries(1)}, thread{retries(1), b}))
	}
	is := map[string]bool{}
	for _, s := range l {
		is[shown(s)] = true
	}
	for next := sample.Noise(66); len(l) < 250; {
		if s := wild(next); !is[shown(s)] {
			is[shown(s)] = true
			l = append(l, s)
		}
	}
	return l
}

// may is, by the chapter's words one behind the other, whether a setup may be.
func may(s api.Setup) bool {
	vars := len(s.Init)
	is := vars >= 1 && vars <= 32 && s.Stripes >= 1 && s.Stripes <= vars && s.Clock >= 0 && s.Clock <= 1<<40 && s.Tries >= 1 && s.Tries <= 1000 && len(s.Threads) <= 6
	for _, l := range s.Threads {
		is = is && len(l) <= 6
		for n, x := range l {
			is = is && code.May(x, n)
		}
	}
	return is
}

// costliest is the greatest cost of all transactions.
func costliest(s api.Setup) int {
	cost := 0
	for _, l := range s.Threads {
		for _, x := range l {
			cost = max(cost, code.Cost(x))
		}
	}
	return cost
}

// shown is a setup as a text that unlike ones have not in common; a list of nothing and no list are the same.
func shown(s api.Setup) string { return fmt.Sprint(s) }

// parts are all numbers and all lists in a thing, at any level, so that they can be made other ones.
func parts(v reflect.Value) (numbers, lists []reflect.Value) {
	many, at := 0, v.Field
	switch v.Kind() {
	case reflect.Struct:
		many = v.NumField()
	case reflect.Slice:
		many, at = v.Len(), v.Index
		lists = append(lists, v)
	default:
		numbers = append(numbers, v)
	}
	for i := range many {
		n, l := parts(at(i))
		numbers, lists = append(numbers, n...), append(lists, l...)
	}
	return numbers, lists
}

// partsOf are those of a setup.
func partsOf(s *api.Setup) (numbers, lists []reflect.Value) {
	return parts(reflect.ValueOf(s).Elem())
}

// add makes a number another one.
func add(v reflect.Value, n int64) {
	if v.CanInt() {
		v.SetInt(v.Int() + n)
	} else {
		v.SetUint(v.Uint() + uint64(n))
	}
}

// longer puts a zero, or nothing, behind a list.
func longer(v reflect.Value) { v.Set(reflect.Append(v, reflect.Zero(v.Type().Elem()))) }

// alike is the same, with lists of nothing where there is none, none where there are some of nothing, and room behind all lists.
func alike(s api.Setup) api.Setup {
	s = setup.Copy(s)
	_, lists := partsOf(&s)
	for _, v := range lists {
		switch {
		case v.IsNil():
			v.Set(reflect.MakeSlice(v.Type(), 0, 3))
		case v.Len() == 0:
			v.SetZero()
		default:
			v.Set(reflect.AppendSlice(reflect.MakeSlice(v.Type(), 0, v.Len()+3), v))
		}
	}
	return s
}

// allowed tells that a setup may be.
func allowed(t testing.TB, s api.Setup) {
	t.Helper()
	if e := setup.Check(s); e != api.OK {
		t.Fatalf("Check of %s: %v", shown(s), e)
	}
}

// refused tells that a setup may not be.
func refused(t testing.TB, s api.Setup) {
	t.Helper()
	if e := setup.Check(s); e != api.ErrForm {
		t.Fatalf("Check of %s: %v", shown(s), e)
	}
}

// checked tells that a setup may be just if this is so.
func checked(t testing.TB, s api.Setup, is bool) {
	t.Helper()
	if is {
		allowed(t, s)
	} else {
		refused(t, s)
	}
}

// costs tells that the greatest cost is just this.
func costs(t testing.TB, s api.Setup, want int) {
	t.Helper()
	if c := setup.Cost(s); c != want {
		t.Fatalf("Cost of %s: %d; want %d", shown(s), c, want)
	}
}

// same tells whether two are the same, which may be turned about.
func same(t testing.TB, a, b api.Setup, want bool) {
	t.Helper()
	if setup.Same(a, b) != want || setup.Same(b, a) != want {
		t.Fatalf("Same of %s and %s: %v, %v", shown(a), shown(b), setup.Same(a, b), setup.Same(b, a))
	}
}
