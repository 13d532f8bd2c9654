// Package sample makes expressions, transactions, setups, events and traces by which the layers are tested; no layer calls it.
package sample

import (
	"slices"

	"seesaw/api"
)

// Lit is a value.
func Lit(n int64) api.Expr { return api.Expr{Op: api.Lit, N: n} }

// Local is a local.
func Local(n int64) api.Expr { return api.Expr{Op: api.Local, N: n} }

// Got is what an earlier transaction returned.
func Got(n int64) api.Expr { return api.Expr{Op: api.Got, N: n} }

// Of is an expression of two others.
func Of(op uint8, a, b api.Expr) api.Expr { return api.Expr{Op: op, Args: []api.Expr{a, b}} }

// Set is a statement of that Kind.
func Set(to int, a api.Expr) api.Stmt { return api.Stmt{Kind: api.Set, To: to, A: a} }

// Read is a statement of that Kind.
func Read(to int, a api.Expr) api.Stmt { return api.Stmt{Kind: api.Read, To: to, A: a} }

// Write is a statement of that Kind.
func Write(a, b api.Expr) api.Stmt { return api.Stmt{Kind: api.Write, A: a, B: b} }

// If is a statement of that Kind.
func If(a api.Expr, body, other []api.Stmt) api.Stmt {
	return api.Stmt{Kind: api.If, A: a, Body: body, Else: other}
}

// Loop is a statement of that Kind.
func Loop(a api.Expr, body ...api.Stmt) api.Stmt {
	return api.Stmt{Kind: api.Loop, A: a, Body: body}
}

// Retry is a statement of that Kind.
func Retry() api.Stmt { return api.Stmt{Kind: api.Retry} }

// OrElse is a statement of that Kind.
func OrElse(body, other []api.Stmt) api.Stmt {
	return api.Stmt{Kind: api.OrElse, Body: body, Else: other}
}

// Return is a statement of that Kind.
func Return(a api.Expr) api.Stmt { return api.Stmt{Kind: api.Return, A: a} }

// Block is a list of statements, which is one of nothing if there are none.
func Block(s ...api.Stmt) []api.Stmt { return append([]api.Stmt{}, s...) }

// Retries are so many of them.
func Retries(many int) []api.Stmt { return slices.Repeat(Block(Retry()), many) }

// Costing is a block of just this cost, of few statements.
func Costing(cost int) []api.Stmt {
	if cost < api.MaxTurns {
		return Retries(cost)
	}
	in := Costing((cost - 1) / api.MaxTurns)
	return append(Retries((cost-1)%api.MaxTurns), Loop(Lit(1), in...))
}
