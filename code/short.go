package code

import "tether/api"

// Short answers p without jumps, and without what no way leads to.
func Short(p []Ins) ([]Ins, api.Errno, int) {
	if e, at := Right(p); e != api.OK {
		return nil, e, at
	}
	ends := landings(p)
	places, size := placed(p, ends)
	out := make([]Ins, 0, size)
	for i, ins := range p {
		if places[i] == nowhere {
			continue
		}
		if ins.Op == Test {
			ins.T = places[ends[i+1+ins.T]] - places[i] - 1
			ins.F = places[ends[i+1+ins.F]] - places[i] - 1
		}
		out = append(out, ins)
	}
	return out, api.OK, 0
}

// landings answers of each instruction which one is the first from it on that is no jump.
func landings(p []Ins) []int {
	out := make([]int, len(p))
	for i := len(p) - 1; i >= 0; i-- {
		out[i] = i
		if j, ok := stepOf(p[i]).(jump); ok {
			out[i] = out[i+1+j.T]
		}
	}
	return out
}

// nowhere is the place of an instruction that is left out.
const nowhere = -1

// placed answers where each instruction goes that some way leads to, and how many these are.
func placed(p []Ins, ends []int) ([]int, int) {
	met := make([]bool, len(p))
	met[ends[0]] = true
	places, size := make([]int, len(p)), 0
	for i, ins := range p {
		if !met[i] {
			places[i] = nowhere
			continue
		}
		places[i] = size
		size++
		if t, ok := stepOf(ins).(test); ok {
			met[ends[i+1+t.T]], met[ends[i+1+t.F]] = true, true
		}
	}
	return places, size
}
