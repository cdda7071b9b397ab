package code

import (
	"tether/api"
	"tether/filter"
)

// step is an instruction as what it is.
type step interface {
	// right tells whether it can be, with that many instructions behind it.
	right(behind int) bool
}

type (
	test Ins
	end  Ins
	jump Ins
)

// stepOf answers what an instruction is; nil, if it is none.
func stepOf(i Ins) step {
	switch i.Op {
	case Test:
		return test(i)
	case Ret:
		return end(i)
	case Jump:
		return jump(i)
	}
	return nil
}

// right has the filter say which tests can be: what it reads is a test, if it is no node with parts, which are missing here.
func (t test) right(behind int) bool {
	n := filter.Node{Kind: t.Kind, Dir: t.Dir, N: t.N, Len: t.Len}
	return leads(t.T, behind) && leads(t.F, behind) && filter.Right([]filter.Node{n}) == api.OK
}

func (e end) right(int) bool {
	return (e.N == 0 || e.N == 1) && e == end{Op: Ret, N: e.N}
}

func (j jump) right(behind int) bool {
	return leads(j.T, behind) && j == jump{Op: Jump, T: j.T}
}

// leads tells whether there is an instruction so many behind the next one.
func leads(over, behind int) bool {
	return over >= 0 && over < behind
}
