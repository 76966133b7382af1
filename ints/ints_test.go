package ints_test

import (
	"math"
	"math/big"
	"testing"

	"jigsaw/api"
	"jigsaw/ints"
)

const (
	least    = math.MinInt64
	greatest = math.MaxInt64
)

type two func(a, b int64) (int64, api.Errno)
type one func(a int64) (int64, api.Errno)

// edges are numbers around those at which something changes: 0, roots of the ends, powers of two, the ends.
func edges() []int64 {
	out := []int64{3037000498, 3037000499, 3037000500, -3037000499, -3037000500, 1000000007, -999999937, least, least + 1, least + 2, greatest, greatest - 1, greatest - 2}
	for n := int64(-12); n <= 12; n++ {
		out = append(out, n)
	}
	for _, place := range []uint{15, 16, 30, 31, 32, 33, 61, 62} {
		p := int64(1) << place
		out = append(out, p-1, p, p+1, -p-1, -p, -p+1)
	}
	return out
}

// asked is what whole numbers without bounds have as the answer.
func asked(n *big.Int) (int64, api.Errno) {
	if !n.IsInt64() {
		return 0, api.ErrOver
	}
	return n.Int64(), api.OK
}

func try2(t *testing.T, name string, f two, a, b, want int64, wantErr api.Errno) {
	t.Helper()
	if n, e := f(a, b); n != want || e != wantErr {
		t.Errorf("%s(%d, %d) = %d, %d; want %d, %d", name, a, b, n, e, want, wantErr)
	}
}

func try1(t *testing.T, name string, f one, a, want int64, wantErr api.Errno) {
	t.Helper()
	if n, e := f(a); n != want || e != wantErr {
		t.Errorf("%s(%d) = %d, %d; want %d, %d", name, a, n, e, want, wantErr)
	}
}

// P1.1, P1.5: sums, differences and products are as whole numbers have them.
func TestSumsAndProductsAgainstBig(t *testing.T) {
	for _, a := range edges() {
		x := big.NewInt(a)
		n, e := asked(new(big.Int).Neg(x))
		try1(t, "Neg", ints.Neg, a, n, e)
		n, e = asked(new(big.Int).Abs(x))
		try1(t, "Abs", ints.Abs, a, n, e)
		for _, b := range edges() {
			y := big.NewInt(b)
			n, e = asked(new(big.Int).Add(x, y))
			try2(t, "Add", ints.Add, a, b, n, e)
			n, e = asked(new(big.Int).Sub(x, y))
			try2(t, "Sub", ints.Sub, a, b, n, e)
			n, e = asked(new(big.Int).Mul(x, y))
			try2(t, "Mul", ints.Mul, a, b, n, e)
		}
	}
}

// P1.1: the ends.
func TestEnds(t *testing.T) {
	try2(t, "Add", ints.Add, greatest, 1, 0, api.ErrOver)
	try2(t, "Add", ints.Add, least, -1, 0, api.ErrOver)
	try2(t, "Add", ints.Add, greatest, least, -1, api.OK)
	try2(t, "Sub", ints.Sub, least, 1, 0, api.ErrOver)
	try2(t, "Sub", ints.Sub, 0, least, 0, api.ErrOver)
	try2(t, "Sub", ints.Sub, -1, least, greatest, api.OK)
	try2(t, "Mul", ints.Mul, least, -1, 0, api.ErrOver)
	try2(t, "Mul", ints.Mul, least, 1, least, api.OK)
	try2(t, "Mul", ints.Mul, -1<<31, 1<<32, least, api.OK)
	try2(t, "Mul", ints.Mul, 1<<31, 1<<32, 0, api.ErrOver)
	try2(t, "Mul", ints.Mul, least, least, 0, api.ErrOver)
	try1(t, "Neg", ints.Neg, least, 0, api.ErrOver)
	try1(t, "Neg", ints.Neg, greatest, -greatest, api.OK)
	try1(t, "Abs", ints.Abs, least, 0, api.ErrOver)
	try1(t, "Abs", ints.Abs, -greatest, greatest, api.OK)
}

// P1.1, P1.5: powers that are not below 0 are as whole numbers have them.
func TestPowAgainstBig(t *testing.T) {
	for _, a := range edges() {
		want := big.NewInt(1)
		for b := int64(0); b <= 70; b++ {
			n, e := asked(want)
			try2(t, "Pow", ints.Pow, a, b, n, e)
			want.Mul(want, big.NewInt(a))
		}
	}
}

// P1.1: powers at the edges, powers below 0 too.
func TestPowEdges(t *testing.T) {
	for _, c := range []struct {
		a, b, want int64
		e          api.Errno
	}{
		{2, 10, 1024, api.OK}, {0, 0, 1, api.OK}, {least, 0, 1, api.OK}, {0, 5, 0, api.OK}, {0, greatest, 0, api.OK},
		{2, 62, 1 << 62, api.OK}, {2, 63, 0, api.ErrOver}, {-2, 63, least, api.OK}, {-2, 64, 0, api.ErrOver},
		{-8, 21, least, api.OK}, {8, 21, 0, api.ErrOver}, {least, 1, least, api.OK}, {least, 2, 0, api.ErrOver},
		{3037000499, 2, 9223372030926249001, api.OK}, {3037000500, 2, 0, api.ErrOver},
		{1, greatest, 1, api.OK}, {-1, greatest, -1, api.OK}, {-1, greatest - 1, 1, api.OK},
		{2, greatest, 0, api.ErrOver}, {-3, greatest, 0, api.ErrOver}, {10, 20, 0, api.ErrOver},
		{0, -1, 0, api.ErrZero}, {0, least, 0, api.ErrZero}, {1, -1, 1, api.OK}, {1, least, 1, api.OK},
		{-1, -3, -1, api.OK}, {-1, -4, 1, api.OK}, {-1, least, 1, api.OK}, {-1, least + 1, -1, api.OK},
		{2, -1, 0, api.OK}, {-2, -1, 0, api.OK}, {least, least, 0, api.OK}, {greatest, -1, 0, api.OK},
	} {
		try2(t, "Pow", ints.Pow, c.a, c.b, c.want, c.e)
	}
}

// floorBig is the quotient, rounded down.
func floorBig(x, y *big.Int) *big.Int {
	q, m := new(big.Int).QuoRem(x, y, new(big.Int))
	if m.Sign() != 0 && m.Sign() != y.Sign() {
		q.Sub(q, big.NewInt(1))
	}
	return q
}

// P1.2: quotients are as whole numbers have them.
func TestQuotientsAgainstBig(t *testing.T) {
	for _, a := range edges() {
		for _, b := range edges() {
			if b == 0 {
				continue
			}
			x, y := big.NewInt(a), big.NewInt(b)
			n, e := asked(new(big.Int).Quo(x, y))
			try2(t, "Div", ints.Div, a, b, n, e)
			n, e = asked(new(big.Int).Rem(x, y))
			try2(t, "Mod", ints.Mod, a, b, n, e)
			n, e = asked(floorBig(x, y))
			try2(t, "Floor", ints.Floor, a, b, n, e)
			up := floorBig(new(big.Int).Neg(x), y)
			n, e = asked(up.Neg(up))
			try2(t, "Ceil", ints.Ceil, a, b, n, e)
		}
	}
}

// P1.2: a divisor of 0, and of -1, and the examples.
func TestQuotientEdges(t *testing.T) {
	for _, a := range []int64{0, 1, -1, least, greatest} {
		try2(t, "Div", ints.Div, a, 0, 0, api.ErrZero)
		try2(t, "Mod", ints.Mod, a, 0, 0, api.ErrZero)
		try2(t, "Floor", ints.Floor, a, 0, 0, api.ErrZero)
		try2(t, "Ceil", ints.Ceil, a, 0, 0, api.ErrZero)
	}
	try2(t, "Div", ints.Div, least, -1, 0, api.ErrOver)
	try2(t, "Mod", ints.Mod, least, -1, 0, api.OK)
	try2(t, "Floor", ints.Floor, least, -1, 0, api.ErrOver)
	try2(t, "Ceil", ints.Ceil, least, -1, 0, api.ErrOver)
	try2(t, "Div", ints.Div, greatest, -1, -greatest, api.OK)
	for _, c := range []struct{ a, b, div, mod, floor, ceil int64 }{
		{7, 2, 3, 1, 3, 4}, {-7, 2, -3, -1, -4, -3}, {7, -2, -3, 1, -4, -3}, {-7, -2, 3, -1, 3, 4},
		{6, 2, 3, 0, 3, 3}, {-6, 2, -3, 0, -3, -3}, {0, -5, 0, 0, 0, 0}, {1, 9, 0, 1, 0, 1}, {-1, 9, 0, -1, -1, 0},
		{least, 2, -1 << 62, 0, -1 << 62, -1 << 62}, {least, greatest, -1, -1, -2, -1}, {greatest, least, 0, greatest, -1, 0},
	} {
		try2(t, "Div", ints.Div, c.a, c.b, c.div, api.OK)
		try2(t, "Mod", ints.Mod, c.a, c.b, c.mod, api.OK)
		try2(t, "Floor", ints.Floor, c.a, c.b, c.floor, api.OK)
		try2(t, "Ceil", ints.Ceil, c.a, c.b, c.ceil, api.OK)
	}
}

// P1.3: the sum alone must fit, whatever comes up between.
func TestDot(t *testing.T) {
	many := func(n int, v int64) []int64 {
		out := make([]int64, n)
		for i := range out {
			out[i] = v
		}
		return out
	}
	for _, c := range []struct {
		a, b []int64
		want int64
		e    api.Errno
	}{
		{nil, nil, 0, api.OK}, {nil, []int64{}, 0, api.OK}, {[]int64{1}, nil, 0, api.ErrArg}, {nil, []int64{1}, 0, api.ErrArg},
		{[]int64{greatest, greatest}, []int64{greatest}, 0, api.ErrArg}, {[]int64{1, 2, 3}, []int64{4, -5, 6}, 12, api.OK},
		{[]int64{1 << 62, 1 << 62, -1 << 62}, []int64{2, 2, 4}, 0, api.OK},
		{[]int64{greatest, 1}, []int64{1, 1}, 0, api.ErrOver}, {[]int64{least, -1}, []int64{1, 1}, 0, api.ErrOver},
		{[]int64{greatest, 1, -1}, []int64{1, 1, 1}, greatest, api.OK}, {[]int64{least, -1, 1}, []int64{1, 1, 1}, least, api.OK},
		{[]int64{least, -1}, []int64{-1, 1}, greatest, api.OK}, {[]int64{least}, []int64{-1}, 0, api.ErrOver},
		{[]int64{1 << 32, 1 << 32}, []int64{1 << 31, 1 << 31}, 0, api.ErrOver},
		// 2^128 in all: 0 to those who reckon with 128 bits
		{many(4, least), many(4, least), 0, api.ErrOver},
		{many(8, least), many(8, least), 0, api.ErrOver},
		{append(many(4, least), 3), append(many(4, least), 4), 0, api.ErrOver},
	} {
		if n, e := ints.Dot(c.a, c.b); n != c.want || e != c.e {
			t.Errorf("Dot(%d, %d) = %d, %d; want %d, %d", c.a, c.b, n, e, c.want, c.e)
		}
	}
}

// P1.3: sums that go far beyond in between, against whole numbers without bounds.
func TestDotAgainstBig(t *testing.T) {
	e := edges()
	state := uint64(1)
	draw := func() int64 {
		state = state*6364136223846793005 + 1442695040888963407
		return e[state>>33%uint64(len(e))]
	}
	for round := range 3000 {
		var a, b []int64
		want := new(big.Int)
		for range round % 12 {
			x, y := draw(), draw()
			a, b = append(a, x), append(b, y)
			want.Add(want, new(big.Int).Mul(big.NewInt(x), big.NewInt(y)))
		}
		if round%2 == 0 { // take nearly all of it away again
			for i := range len(a) {
				if a[i] != least {
					a, b = append(a, -a[i]), append(b, b[i])
					want.Sub(want, new(big.Int).Mul(big.NewInt(a[i]), big.NewInt(b[i])))
				}
			}
		}
		keptA, keptB := append([]int64{}, a...), append([]int64{}, b...)
		w, we := asked(want)
		if n, e := ints.Dot(a, b); n != w || e != we {
			t.Fatalf("Dot(%d, %d) = %d, %d; want %d, %d", a, b, n, e, w, we)
		}
		for i := range a {
			if a[i] != keptA[i] || b[i] != keptB[i] {
				t.Fatal("Dot changed its arguments")
			}
		}
	}
}

// P1.3, P1.6: the square of Root is not above the number, that of one more is.
func TestRoot(t *testing.T) {
	for _, a := range []int64{-1, -4, least} {
		try1(t, "Root", ints.Root, a, 0, api.ErrArg)
	}
	for _, c := range [][2]int64{{0, 0}, {1, 1}, {2, 1}, {3, 1}, {4, 2}, {99, 9}, {100, 10}, {greatest, 3037000499}, {9223372030926249001, 3037000499}, {9223372030926249000, 3037000498}, {1 << 62, 1 << 31}, {1<<62 - 1, 1<<31 - 1}} {
		try1(t, "Root", ints.Root, c[0], c[1], api.OK)
	}
	for _, a := range append(edges(), 9223372030926249001, 9223372030926249000, 999999999999) {
		if a < 0 {
			continue
		}
		r, e := ints.Root(a)
		square := new(big.Int).Mul(big.NewInt(r), big.NewInt(r))
		more := new(big.Int).Mul(big.NewInt(r+1), big.NewInt(r+1))
		if e != api.OK || r < 0 || square.Cmp(big.NewInt(a)) > 0 || more.Cmp(big.NewInt(a)) <= 0 {
			t.Errorf("Root(%d) = %d, %d", a, r, e)
		}
	}
}

// P1.4: Div times the divisor and Mod together are the number; Floor, Div and Ceil lie by each other.
func TestQuotientsFitTogether(t *testing.T) {
	for _, a := range edges() {
		for _, b := range edges() {
			q, e := ints.Div(a, b)
			if e != api.OK {
				continue
			}
			m, _ := ints.Mod(a, b)
			if n, e := ints.Dot([]int64{q, m}, []int64{b, 1}); n != a || e != api.OK {
				t.Errorf("%d by %d: Div %d, Mod %d", a, b, q, m)
			}
			if m != 0 && (m < 0) != (a < 0) {
				t.Errorf("Mod(%d, %d) = %d: not with the first one's sign", a, b, m)
			}
			lo, _ := ints.Floor(a, b)
			hi, _ := ints.Ceil(a, b)
			if lo > q || hi < q || hi-lo > 1 || hi-lo < 0 {
				t.Errorf("%d by %d: Floor %d, Div %d, Ceil %d", a, b, lo, q, hi)
			}
		}
	}
}

// P1.5: Sub of Add, Div of Mul are the first number.
func TestThereAndBack(t *testing.T) {
	for _, a := range edges() {
		for _, b := range edges() {
			if s, e := ints.Add(a, b); e == api.OK {
				try2(t, "Sub", ints.Sub, s, b, a, api.OK)
			}
			if p, e := ints.Mul(a, b); e == api.OK && b != 0 {
				try2(t, "Div", ints.Div, p, b, a, api.OK)
			}
		}
	}
}
