package search

import (
	"math/bits"

	"jigsaw/api"
	"jigsaw/kinds"
	"jigsaw/post"
)

// Right: can options be?
func Right(o api.Options) api.Errno {
	switch {
	case o.Nodes < 1 || o.Nodes > api.MaxBudget:
		return api.ErrArg
	case o.Restart != api.RNone && !rightStarts(o.Restart, o.Scale):
		return api.ErrArg
	case o.Lns < 0 || o.Lns > 100:
		return api.ErrArg
	case len(o.Draws) > api.MaxDraws:
		return api.ErrSize
	}
	return api.OK
}

// rightStarts: are there starts of that kind and scale?
func rightStarts(how int, scale int64) bool {
	return how >= api.RConstant && how <= api.RGeometric && scale >= 1 && scale <= api.Big
}

// refused is the error of a problem or of options that can not be.
func refused(p api.Problem, o api.Options) api.Errno {
	if e := post.Right(p); e != api.OK {
		return e
	}
	return Right(o)
}

// Cutoff is the nodes of a start.
func Cutoff(how int, scale int64, start int) (int64, api.Errno) {
	if !rightStarts(how, scale) || start < 1 {
		return 0, api.ErrArg
	}
	switch how {
	case api.RGeometric:
		return doubled(scale, start-1), api.OK
	case api.RLuby:
		return doubled(scale, luby(start)), api.OK
	}
	return scale, api.OK
}

// doubled is a scale times 2 to the power n, at most MaxBudget. A scale of 1, too, is beyond it 40 times doubled.
func doubled(scale int64, n int) int64 {
	return min(scale<<min(n, 40), api.MaxBudget)
}

// luby is the power of 2 that a start's number in the row of Luby is.
func luby(start int) int {
	for {
		k := bits.Len(uint(start))
		if start == 1<<k-1 {
			return k - 1
		}
		start -= 1<<(k-1) - 1
	}
}

// Enough is a budget with which a search ends, without neighbourhoods; MaxBudget, if none is known.
func Enough(p api.Problem, o api.Options) (int64, api.Errno) {
	if e := refused(p, o); e != api.OK {
		return 0, e
	}
	all := wholeTree(p.Vars)
	switch o.Restart {
	case api.RNone:
		return all, api.OK
	case api.RConstant:
		return api.MaxBudget, api.OK
	}
	return min(ahead(o, all)+all, api.MaxBudget), api.OK
}

// wholeTree is the most nodes of one start that nothing cuts off, at most MaxBudget: what can not be parted any more has at least one assignment of its own, and whatever is parted is so in two.
func wholeTree(d []api.Dom) int64 {
	leaves := int64(1)
	for _, x := range d {
		size := kinds.Size(x)
		switch {
		case size == 0:
			return 1
		case leaves > api.MaxBudget/size:
			leaves = api.MaxBudget
		default:
			leaves *= size
		}
	}
	return min(2*leaves-1, api.MaxBudget)
}

// ahead is the nodes of all starts ahead of the first that has as many as are wanted: 2 to the power k times the scale. By RGeometric there is one start of each power below; by RLuby the row up to that start comes to k + 1 times its nodes.
func ahead(o api.Options, wanted int64) int64 {
	k := 0
	for doubled(o.Scale, k) < wanted {
		k++
	}
	if o.Restart == api.RLuby {
		return int64(k) * doubled(o.Scale, k)
	}
	return doubled(o.Scale, k) - o.Scale
}
