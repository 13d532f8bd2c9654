package sample

import (
	"math"

	"seesaw/api"
)

// tx is a transaction, thread are some of them.
type (
	tx     = []api.Stmt
	thread = []tx
)

// Running is a setup of these threads, whose numbers may be.
func Running(threads ...thread) api.Setup {
	return api.Setup{Stripes: 1, Clock: 5, Tries: 2, Init: []int64{7, -8}, Threads: threads}
}

// Bad are transactions that may not be, wherever they stand.
func Bad() []tx {
	return []tx{{{}}, {{Kind: 9}}, {Set(8, Lit(1))}, {Return(Got(6))}, {Return(Lit(1)), {Kind: api.Return}}, Retries(api.MaxStmts + 1), Costing(api.MaxCost + 1)}
}

// Most is a setup with as much of all as there may be.
func Most() api.Setup {
	s := api.Setup{Stripes: api.MaxVars, Clock: api.MaxClock, Tries: api.MaxTries, Init: make([]int64, api.MaxVars)}
	for range api.MaxThreads {
		s.Threads = append(s.Threads, thread{Retries(api.MaxStmts), Costing(api.MaxCost), {Return(Got(1))}, nil, Retries(1), {Return(Got(api.MaxTx - 2))}})
	}
	return s
}

// Rich is a setup with something everywhere.
func Rich() api.Setup {
	first := thread{{Set(1, Of(api.Add, Lit(1), Of(api.Sub, Lit(2), Lit(3))))}, {OrElse(Retries(2), Block(OrElse(Retries(1), nil)))}, nil}
	return api.Setup{Stripes: 2, Clock: 50, Tries: 3, Init: []int64{4, math.MinInt64, -1}, Threads: []thread{first, {}, {Retries(3), {Write(Lit(4), Got(0)), If(Lit(9), Retries(1), Retries(2))}}}}
}

// Setups are setups that may be, some at the limits.
func Setups() []api.Setup {
	l := []api.Setup{{Stripes: 1, Tries: 1, Init: []int64{0}}, Running(), Running(nil), Running(thread{}, thread{nil}, nil), Most(), Rich()}
	next := Noise(6)
	for range 200 {
		l = append(l, Setup(next))
	}
	return l
}

// pick is one of several.
func pick(next Next, l ...int) int { return l[next(len(l))] }

// Wild is a setup that may be, or not.
func Wild(next Next) api.Setup {
	s := api.Setup{Clock: pick(next, 5, 0, -1, api.MaxClock, api.MaxClock+1), Tries: pick(next, 5, 1, 0, api.MaxTries, api.MaxTries+1)}
	s.Init = make([]int64, pick(next, 1, 2, 3, 0, api.MaxVars, api.MaxVars+1))
	for v := range s.Init {
		s.Init[v] = int64(next(3) - 1)
	}
	s.Stripes = pick(next, 1, len(s.Init), len(s.Init), 0, -1, len(s.Init)+1, 2)
	for range next(api.MaxThreads + 2) {
		l := thread{}
		for n := range next(api.MaxTx + 2) {
			l = append(l, Stmts(next, n+next(16)/15, 3, next(4)))
		}
		s.Threads = append(s.Threads, l)
	}
	return s
}
