package sample

import (
	"seesaw/api"
	"seesaw/code"
)

// Next tells one number behind the other, each below the one it is handed, and 0 at least.
type Next func(below int) int

// Noise are numbers by a short rule, unlike for unlike seeds.
func Noise(seed uint64) Next {
	x := seed*2 + 1
	return func(below int) int {
		x = x*6364136223846793005 + 1442695040888963407
		return int(x >> 33 % uint64(below))
	}
}

// Bytes are numbers as bytes tell them, one of each; behind the last one all are 0.
func Bytes(s string) Next {
	return func(below int) int {
		if s == "" {
			return 0
		}
		n := int(s[0])
		s = s[1:]
		return n % below
	}
}

// Expr is an expression that may be in the transaction n, so many in a row at most.
func Expr(next Next, n, most int) api.Expr {
	if most == 1 || next(3) == 0 {
		switch next(3) {
		case 0:
			return Lit(int64(next(7) - 3))
		case 1:
			if n > 0 {
				return Got(int64(next(n)))
			}
		}
		return Local(int64(next(api.MaxLocals)))
	}
	return Of(api.Add+uint8(next(5)), Expr(next, n, most-1), Expr(next, n, most-1))
}

// Stmt is a statement that is shaped, in the transaction n; in it are blocks of so many statements, and so deep, at most.
func Stmt(next Next, n, many, deep int) api.Stmt {
	s := api.Stmt{Kind: api.Set + uint8(next(8))}
	value := func() api.Expr { return Expr(next, n, 1+next(4)) }
	block := func() []api.Stmt { return Stmts(next, n, many, deep) }
	switch s.Kind {
	case api.Set, api.Read:
		s.To, s.A = next(api.MaxLocals), value()
	case api.Write:
		s.A, s.B = value(), value()
	case api.If:
		s.A, s.Body, s.Else = value(), block(), block()
	case api.Loop:
		s.A, s.Body = value(), block()
	case api.OrElse:
		s.Body, s.Else = block(), block()
	case api.Return:
		s.A = value()
	}
	return s
}

// Stmts is a block of such statements: so many in a row, and blocks so deep, at most.
func Stmts(next Next, n, many, deep int) []api.Stmt {
	if deep == 0 {
		return nil
	}
	var l []api.Stmt
	for range next(many + 1) {
		l = append(l, Stmt(next, n, many, deep-1))
	}
	return l
}

// Tx is a transaction that may be the n-th one.
func Tx(next Next, n int) []api.Stmt {
	tx := Stmts(next, n, 2+next(4), 1+next(api.MaxNest))
	for !code.May(tx, n) { // it has too much of something: its beginning has less
		tx = tx[:len(tx)-1]
	}
	return tx
}

// Setup is a setup that may be.
func Setup(next Next) api.Setup {
	s := api.Setup{Clock: next(20), Tries: 1 + next(9)}
	for range 1 + next(6) {
		s.Init = append(s.Init, int64(next(9)-4))
	}
	s.Stripes = 1 + next(len(s.Init))
	for range next(api.MaxThreads + 1) {
		var thread [][]api.Stmt
		for n := range next(api.MaxTx + 1) {
			thread = append(thread, Tx(next, n))
		}
		s.Threads = append(s.Threads, thread)
	}
	return s
}
