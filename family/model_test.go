package family_test

import (
	"math/big"
	"slices"
	"strings"

	"jigsaw/api"
)

// truthOf is yes, if that is so.
func truthOf(so bool) answer {
	if so {
		return yes
	}
	return no
}

// linearModel is the document's chapter 7, with numbers that have no bounds.
func linearModel(c api.Con, v []api.Val) answer {
	arg := func(i int) *big.Int { return big.NewInt(number(c.Args[i].L[0], v)) }
	last := arg(len(c.Args)-1).Sign() == 1
	if name, ok := strings.CutSuffix(c.Name, "_reif"); ok {
		return truthOf((linearModel(api.Con{Name: name, Args: c.Args[:len(c.Args)-1]}, v) == yes) == last)
	}
	if name, ok := strings.CutSuffix(c.Name, "_imp"); ok {
		return truthOf(!last || linearModel(api.Con{Name: name, Args: c.Args[:len(c.Args)-1]}, v) == yes)
	}
	switch c.Name {
	case "int_eq":
		return truthOf(arg(0).Cmp(arg(1)) == 0)
	case "int_ne":
		return truthOf(arg(0).Cmp(arg(1)) != 0)
	case "int_le":
		return truthOf(arg(0).Cmp(arg(1)) <= 0)
	case "int_lt":
		return truthOf(arg(0).Cmp(arg(1)) < 0)
	}
	sum := new(big.Int)
	for i, a := range c.Args[0].L {
		sum.Add(sum, new(big.Int).Mul(big.NewInt(a.C.N), big.NewInt(number(c.Args[1].L[i], v))))
	}
	switch c.Name {
	case "int_lin_eq", "bool_lin_eq":
		return truthOf(sum.Cmp(arg(2)) == 0)
	case "int_lin_ne":
		return truthOf(sum.Cmp(arg(2)) != 0)
	case "int_lin_le", "bool_lin_le":
		return truthOf(sum.Cmp(arg(2)) <= 0)
	}
	panic(c.Name)
}

// arithModel is the document's chapter 8.
func arithModel(c api.Con, v []api.Val) answer {
	x, last := number(c.Args[0].L[0], v), c.Args[len(c.Args)-1].L[0]
	if strings.HasPrefix(c.Name, "array_") {
		if x < 1 || x > int64(len(c.Args[1].L)) {
			return no
		}
		row := c.Args[1].L[x-1]
		return truthOf(number(row, v) == number(last, v) && slices.Equal(elements(row, v), elements(last, v)))
	}
	y, z := number(c.Args[1].L[0], v), number(last, v)
	switch c.Name {
	case "int_abs":
		return truthOf(z >= 0 && (z == x || z == -x))
	case "int_plus":
		return truthOf(z-x == y)
	case "int_times":
		return truthOf(z == x*y)
	case "int_div":
		return truthOf(y != 0 && z == new(big.Int).Quo(big.NewInt(x), orOne(y)).Int64())
	case "int_mod":
		return truthOf(y != 0 && z == new(big.Int).Rem(big.NewInt(x), orOne(y)).Int64())
	case "int_min":
		return truthOf((z == x || z == y) && z <= x && z <= y)
	case "int_max":
		return truthOf((z == x || z == y) && z >= x && z >= y)
	case "int_pow":
		return powModel(x, y, z)
	}
	panic(c.Name)
}

// orOne is n, or 1 instead of 0.
func orOne(n int64) *big.Int {
	if n == 0 {
		n = 1
	}
	return big.NewInt(n)
}

func powModel(x, y, z int64) answer {
	switch {
	case y >= 0:
		p := new(big.Int).Exp(big.NewInt(x), big.NewInt(y), nil)
		if !p.IsInt64() {
			return beyond
		}
		return truthOf(p.Int64() == z)
	case x == 0:
		return no
	case x == 1 || x == -1 && y%2 == 0:
		return truthOf(z == 1)
	case x == -1:
		return truthOf(z == -1)
	}
	return truthOf(z == 0)
}
