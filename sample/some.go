package sample

import (
	"slices"

	"seesaw/api"
	"seesaw/code"
)

// Next tells one number behind the other, each below the one it is handed, and 0 at least.
type Next func(below int) int

// Noise are numbers by a short rule, unlike for unlike seeds.
func Noise(seed uint64) Next {
	x := seed*2 + 1
	return func(below int) int {
		x = x*6364136223846793005 + 1442695040888963407
		return int(x >> 33 % uint64(below))
	}
}

// Bytes are numbers as bytes tell them, one of each; behind the last one all are 0.
func Bytes(s string) Next {
	return func(below int) int {
		if s == "" {
			return 0
		}
		n := int(s[0])
		s = s[1:]
		return n % below
	}
}

// Expr is an expression that may be in the transaction n, so many in a row at most.
func Expr(next Next, n, most int) api.Expr {
	if most == 1 || next(3) == 0 {
		switch next(3) {
		case 0:
			return Lit(int64(next(7) - 3))
		case 1:
			if n > 0 {
				return Got(int64(next(n)))
			}
		}
		return Local(int64(next(api.MaxLocals)))
	}
	return Of(api.Add+uint8(next(5)), Expr(next, n, most-1), Expr(next, n, most-1))
}

// Stmt is a statement that is shaped, in the transaction n; in it are blocks of so many statements, and so deep, at most.
func Stmt(next Next, n, many, deep int) api.Stmt {
	s := api.Stmt{Kind: api.Set + uint8(next(8))}
	value := func() api.Expr { return Expr(next, n, 1+next(4)) }
	block := func() []api.Stmt { return Stmts(next, n, many, deep) }
	switch s.Kind {
	case api.Set, api.Read:
		s.To, s.A = next(api.MaxLocals), value()
	case api.Write:
		s.A, s.B = value(), value()
	case api.If:
		s.A, s.Body, s.Else = value(), block(), block()
	case api.Loop:
		s.A, s.Body = value(), block()
	case api.OrElse:
		s.Body, s.Else = block(), block()
	case api.Return:
		s.A = value()
	}
	return s
}

// Stmts is a block of such statements: so many in a row, and blocks so deep, at most.
func Stmts(next Next, n, many, deep int) []api.Stmt {
	if deep == 0 {
		return nil
	}
	var l []api.Stmt
	for range next(many + 1) {
		l = append(l, Stmt(next, n, many, deep-1))
	}
	return l
}

// Tx is a transaction that may be the n-th one.
func Tx(next Next, n int) []api.Stmt {
	tx := Stmts(next, n, 2+next(4), 1+next(api.MaxNest))
	for !code.May(tx, n) { // it has too much of something: its beginning has less
		tx = tx[:len(tx)-1]
	}
	return tx
}

// Lively are statements as Stmts are, but for those, of this block, that would end it at once.
func Lively(next Next, n, many, deep int) []api.Stmt {
	return slices.DeleteFunc(Stmts(next, n, many, deep), func(s api.Stmt) bool {
		return s.Kind == api.Retry || s.Kind == api.Return
	})
}

// Busy is a transaction that may be the n-th one, and does much: what begins it is lively, and behind that, perhaps in a Loop, is an OrElse with something in it, whose Body comes to Retry often.
func Busy(next Next, n int) []api.Stmt {
	for {
		tx := Lively(next, n, 4, 3)
		body := Lively(next, n, 4, 3)
		switch next(4) {
		case 0:
			body = append(body, Retry())
		case 1:
			body = append(body, If(Local(int64(next(3))), Block(Retry()), nil))
		}
		tx = append(tx, OrElse(body, Lively(next, n, 3, 3)))
		if next(2) == 0 {
			tx = Block(Loop(Of(api.Add, Lit(int64(next(5))), Local(int64(next(3)))), tx...))
		}
		tx = append(tx, Stmts(next, n, 3, 2)...)
		if code.May(tx, n) {
			return tx
		}
	}
}

// Spoil has each statement, and each expression, of a transaction be another one.
func Spoil(tx []api.Stmt) {
	for i, s := range tx {
		Spoil(s.Body)
		Spoil(s.Else)
		spoil(s.A)
		spoil(s.B)
		tx[i] = Return(Lit(-99))
	}
}

// spoil does so with an expression's expressions.
func spoil(e api.Expr) {
	for i, a := range e.Args {
		spoil(a)
		e.Args[i] = Lit(-99)
	}
}

// Setup is a setup that may be.
func Setup(next Next) api.Setup {
	s := api.Setup{Clock: next(20), Tries: 1 + next(9)}
	for range 1 + next(6) {
		s.Init = append(s.Init, int64(next(9)-4))
	}
	s.Stripes = 1 + next(len(s.Init))
	for range next(api.MaxThreads + 1) {
		var thread [][]api.Stmt
		for n := range next(api.MaxTx + 1) {
			thread = append(thread, Tx(next, n))
		}
		s.Threads = append(s.Threads, thread)
	}
	return s
}
