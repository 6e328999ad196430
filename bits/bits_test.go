package bits

import (
	"math"
	"math/big"
	"testing"

	"septum/api"
)

const (
	minusNought = 1 << 63
	infinite    = 0x7ff0000000000000
	minusInf    = 0xfff0000000000000
	half        = 0x3fe0000000000000
	tiniest     = 1                  // the least subnormal number
	topSub      = 0x000fffffffffffff // the greatest subnormal number
	leastNormal = 0x0010000000000000
	greatest    = 0x7fefffffffffffff
	whole53     = 0x4340000000000000 // 2^53
)

// nones are bits of no number: with either sign, quiet and signalling, the least and the greatest.
func nones() []uint64 {
	return []uint64{api.NaN, 0x7ff8000000000000, 0x7ff0000000000001, 0x7fffffffffffffff, 0xfff8000000000001, 0xfff0000000000001, 0xffffffffffffffff}
}

// finite are numbers at edges, with both signs.
func finite() []uint64 {
	var l []uint64
	for _, b := range []uint64{
		0, tiniest, 2, 3, topSub, leastNormal, leastNormal + 1, 0x0020000000000003, greatest, greatest - 1,
		half, half - 1, f(1), f(1) + 1, f(1) - 1, f(1.5), f(2), f(3), f(5.5), f(7), f(10), f(0.1), f(0.3), f(255), f(1e16), f(1e300), f(1e-300),
		f(1<<31 - 1), f(1 << 31), f(1<<31 + 1), f(1<<32 - 1), f(1 << 32), f(1<<32 + 1), f(1<<32 + 0.5), f(1<<40 + 5),
		whole53, whole53 - 1, whole53 + 1, f(1 << 62), f(1 << 63), f(1 << 64), f(1<<84 + 1<<32), 0x4530000000000001, 0x7fe1234567890abc,
	} {
		l = append(l, b, b|minusNought)
	}
	return l
}

// some are numbers of any kind, the same ones each time.
func some(n int) []uint64 {
	x, l := uint64(88172645463325252), []uint64(nil)
	for range n {
		x ^= x << 13
		x ^= x >> 7
		x ^= x << 17
		l = append(l, x)
	}
	return l
}

func all() []uint64 {
	l := append(finite(), infinite, minusInf)
	return append(l, nones()...)
}

func f(x float64) uint64 { return math.Float64bits(x) }

func float(b uint64) float64 { return math.Float64frombits(b) }

func none(b uint64) bool { return math.IsNaN(float(b)) }

// exact is a finite number without rounding.
func exact(b uint64) *big.Rat { return new(big.Rat).SetFloat64(float(b)) }

// cut is a number without what is behind its point.
func cut(r *big.Rat) *big.Int { return new(big.Int).Quo(r.Num(), r.Denom()) }

func TestOf(t *testing.T) {
	for _, x := range []struct {
		n int
		b uint64
	}{
		{0, 0}, {1, 0x3ff0000000000000}, {-1, 0xbff0000000000000}, {2, 0x4000000000000000}, {3, 0x4008000000000000}, {-12, 0xc028000000000000},
		{1 << 32, 0x41f0000000000000},
		{1<<53 - 1, whole53 - 1}, {1 << 53, whole53}, {1<<53 + 1, whole53}, {1<<53 + 2, whole53 + 1}, {1<<53 + 3, whole53 + 2},
		{-(1 << 53), whole53 | minusNought}, {-(1<<53 + 1), whole53 | minusNought}, {-(1<<53 + 3), whole53 + 2 | minusNought},
		{math.MaxInt, 0x43e0000000000000}, {math.MinInt, 0xc3e0000000000000}, {math.MaxInt - 511, 0x43e0000000000000}, {math.MaxInt - 512, 0x43dfffffffffffff},
	} {
		if b := Of(x.n); b != x.b {
			t.Errorf("Of(%d) = %x, not %x", x.n, b, x.b)
		}
	}
}

func TestWhole(t *testing.T) {
	for _, n := range []int{0, 1, -1, 2, -2, 7, 100, -12345, 1<<31 - 1, 1 << 31, -(1 << 31), 1 << 32, 1<<52 + 1, 1<<53 - 1, 1 << 53, 1 - 1<<53, -(1 << 53)} {
		if m, ok := Whole(Of(n)); m != n || !ok {
			t.Errorf("Whole(Of(%d)) = %d, %v", n, m, ok)
		}
	}
	if n, ok := Whole(minusNought); n != 0 || !ok {
		t.Errorf("Whole of -0 = %d, %v", n, ok)
	}
	no := append(nones(), infinite, minusInf, half, half|minusNought, tiniest, tiniest|minusNought, topSub, leastNormal, f(1)+1, f(1)-1, f(-1.5), f(1e15+0.5),
		whole53+1, whole53+1|minusNought, f(1<<54), f(1<<62), f(1<<63), f(-1<<63), f(1<<64), f(1e300), greatest, greatest|minusNought)
	for _, b := range no {
		if n, ok := Whole(b); n != 0 || ok {
			t.Errorf("Whole(%x) = %d, %v", b, n, ok)
		}
	}
}

func TestReckonAsFloats(t *testing.T) {
	l := append(all(), some(60)...)
	for _, a := range l {
		for _, b := range l {
			x, y := float(a), float(b)
			for _, r := range []struct {
				name string
				got  uint64
				want float64
			}{
				{"Add", Add(a, b), x + y}, {"Sub", Sub(a, b), x - y}, {"Mul", Mul(a, b), x * y}, {"Div", Div(a, b), x / y},
			} {
				want := f(r.want)
				if math.IsNaN(r.want) {
					want = api.NaN
				}
				if r.got != want {
					t.Fatalf("%s(%x, %x) = %x, not %x", r.name, a, b, r.got, want)
				}
			}
		}
	}
}

func TestReckonAtEdges(t *testing.T) {
	for i, x := range []struct{ got, want uint64 }{
		{Add(Of(1), Of(2)), Of(3)},
		{Add(0, minusNought), 0}, {Add(minusNought, minusNought), minusNought}, {Sub(0, 0), 0}, {Sub(minusNought, 0), minusNought},
		{Add(whole53, Of(1)), whole53}, {Add(whole53, Of(2)), whole53 + 1}, {Add(whole53+1, Of(1)), whole53 + 2},
		{Add(f(0.1), f(0.2)), 0x3fd3333333333334},
		{Add(infinite, minusInf), api.NaN}, {Sub(infinite, infinite), api.NaN}, {Add(infinite, infinite), infinite}, {Add(greatest, greatest), infinite},
		{Sub(leastNormal, tiniest), topSub}, {Add(topSub, tiniest), leastNormal},
		{Mul(0, infinite), api.NaN}, {Mul(Of(-1), 0), minusNought}, {Mul(minusNought, Of(-5)), 0}, {Mul(tiniest, half), 0}, {Mul(tiniest, f(-0.5)), minusNought},
		{Mul(greatest, Of(-2)), minusInf}, {Mul(whole53, Of(2)), 0x4350000000000000}, {Mul(0x3ff0000000000001, 0x3ff0000000000001), 0x3ff0000000000002},
		{Div(0, 0), api.NaN}, {Div(minusNought, 0), api.NaN}, {Div(infinite, minusInf), api.NaN},
		{Div(Of(1), 0), infinite}, {Div(Of(1), minusNought), minusInf}, {Div(Of(-1), 0), minusInf}, {Div(Of(-1), minusNought), infinite},
		{Div(infinite, minusNought), minusInf}, {Div(Of(1), minusInf), minusNought}, {Div(Of(1), Of(2)), half}, {Div(Of(1), Of(3)), 0x3fd5555555555555},
		{Div(leastNormal, Of(2)), 0x0008000000000000},
	} {
		if x.got != x.want {
			t.Errorf("%d: %x, not %x", i, x.got, x.want)
		}
	}
	for _, n := range nones() {
		for i, got := range []uint64{Add(n, Of(1)), Add(Of(1), n), Sub(n, n), Mul(n, 0), Div(Of(1), n), Div(n, 0), Rem(n, Of(2)), Rem(Of(2), n), Neg(n)} {
			if got != api.NaN {
				t.Errorf("%x: %d: %x", n, i, got)
			}
		}
	}
}

func TestNeg(t *testing.T) {
	for _, x := range [][2]uint64{
		{0, minusNought}, {Of(1), Of(-1)}, {infinite, minusInf}, {tiniest, tiniest | minusNought}, {greatest, greatest | minusNought}, {half, f(-0.5)},
	} {
		if Neg(x[0]) != x[1] || Neg(x[1]) != x[0] {
			t.Errorf("Neg(%x) = %x, Neg(%x) = %x", x[0], Neg(x[0]), x[1], Neg(x[1]))
		}
	}
}

// remOf is a less b times the quotient, cut, by exact fractions: a's sign, also of a nought.
func remOf(a, b uint64) uint64 {
	x, y := exact(a), exact(b)
	q := cut(new(big.Rat).Quo(x, y))
	left := new(big.Rat).Sub(x, new(big.Rat).Mul(y, new(big.Rat).SetInt(q)))
	r, ok := left.Float64()
	if !ok {
		panic("not exact")
	}
	return f(math.Copysign(r, float(a)))
}

func TestRemExact(t *testing.T) {
	l := finite()
	for _, b := range some(40) {
		if !none(b) && !math.IsInf(float(b), 0) {
			l = append(l, b)
		}
	}
	for _, a := range l {
		for _, b := range l {
			if float(b) == 0 {
				continue
			}
			if got, want := Rem(a, b), remOf(a, b); got != want {
				t.Fatalf("Rem(%x, %x) = %x, not %x", a, b, got, want)
			}
		}
	}
}

func TestRemAtEdges(t *testing.T) {
	for i, x := range []struct{ a, b, want uint64 }{
		{Of(-7), Of(2), Of(-1)}, {Of(7), Of(-2), Of(1)}, {Of(7), Of(2), Of(1)}, {Of(-7), Of(-2), Of(-1)},
		{Of(6), Of(3), 0}, {Of(-6), Of(3), minusNought}, {Of(6), Of(-3), 0}, {Of(-6), Of(-3), minusNought},
		{f(5.5), Of(2), f(1.5)}, {f(-5.5), Of(2), f(-1.5)}, {half, Of(1), half}, {f(-0.5), Of(1), f(-0.5)},
		{f(1e300), Of(7), Of(1)}, {Of(1), f(1e300), Of(1)}, {greatest, tiniest, 0}, {greatest | minusNought, tiniest, minusNought},
		{greatest, 3, 2}, {tiniest, greatest, tiniest}, {topSub, 2, 1}, {leastNormal, topSub, tiniest}, {leastNormal | minusNought, topSub, tiniest | minusNought},
		{f(0.3), f(0.1), 0x3fb9999999999998},
		{infinite, Of(2), api.NaN}, {minusInf, Of(2), api.NaN}, {infinite, infinite, api.NaN}, {infinite, 0, api.NaN},
		{Of(2), 0, api.NaN}, {Of(2), minusNought, api.NaN}, {0, 0, api.NaN}, {minusNought, minusNought, api.NaN},
		{Of(2), infinite, Of(2)}, {Of(-2), minusInf, Of(-2)}, {tiniest, minusInf, tiniest}, {greatest, infinite, greatest},
		{0, Of(5), 0}, {minusNought, Of(5), minusNought}, {minusNought, Of(-5), minusNought}, {0, Of(-5), 0}, {0, infinite, 0}, {minusNought, infinite, minusNought},
	} {
		if got := Rem(x.a, x.b); got != x.want {
			t.Errorf("%d: Rem(%x, %x) = %x, not %x", i, x.a, x.b, got, x.want)
		}
	}
}

func TestLess(t *testing.T) {
	l := append(all(), some(60)...)
	for _, a := range l {
		for _, b := range l {
			yes, known := Less(a, b)
			if known != (!none(a) && !none(b)) || yes != (float(a) < float(b)) {
				t.Fatalf("Less(%x, %x) = %v, %v", a, b, yes, known)
			}
		}
	}
	for i, x := range []struct {
		a, b       uint64
		yes, known bool
	}{
		{Of(1), Of(2), true, true}, {Of(2), Of(1), false, true}, {Of(1), Of(1), false, true}, {Of(-2), Of(-1), true, true}, {Of(-1), Of(-2), false, true},
		{minusNought, 0, false, true}, {0, minusNought, false, true}, {minusNought, tiniest, true, true}, {tiniest | minusNought, minusNought, true, true},
		{minusInf, greatest | minusNought, true, true}, {greatest, infinite, true, true}, {infinite, infinite, false, true},
		{whole53, whole53 + 1, true, true}, {whole53 - 1, whole53, true, true},
		{api.NaN, Of(1), false, false}, {Of(1), 0xfff0000000000001, false, false}, {api.NaN, infinite, false, false}, {api.NaN, api.NaN, false, false},
	} {
		if yes, known := Less(x.a, x.b); yes != x.yes || known != x.known {
			t.Errorf("%d: %v, %v", i, yes, known)
		}
	}
}

func TestEqualAndSame(t *testing.T) {
	l := append(all(), some(60)...)
	for _, a := range l {
		for _, b := range l {
			if got := Equal(a, b); got != (float(a) == float(b)) {
				t.Fatalf("Equal(%x, %x) = %v", a, b, got)
			}
			if got := Same(a, b); got != (a == b || none(a) && none(b)) {
				t.Fatalf("Same(%x, %x) = %v", a, b, got)
			}
		}
	}
	for i, x := range []struct {
		a, b        uint64
		equal, same bool
	}{
		{0, minusNought, true, false}, {minusNought, 0, true, false}, {0, 0, true, true}, {minusNought, minusNought, true, true},
		{api.NaN, api.NaN, false, true}, {api.NaN, 0xfff0000000000001, false, true}, {api.NaN, 0, false, false}, {infinite, api.NaN, false, false},
		{infinite, infinite, true, true}, {infinite, minusInf, false, false}, {Of(1), Of(1), true, true}, {Of(1), Of(-1), false, false}, {tiniest, 0, false, false},
	} {
		if Equal(x.a, x.b) != x.equal || Same(x.a, x.b) != x.same {
			t.Errorf("%d: %v, %v", i, Equal(x.a, x.b), Same(x.a, x.b))
		}
	}
}

func TestUint32Exact(t *testing.T) {
	mod := big.NewInt(1 << 32)
	for _, b := range append(finite(), some(400)...) {
		if none(b) || math.IsInf(float(b), 0) {
			continue
		}
		want := uint32(new(big.Int).Mod(cut(exact(b)), mod).Uint64())
		if Uint32(b) != want || Int32(b) != int32(want) {
			t.Fatalf("Uint32(%x) = %d, Int32 %d, not %d", b, Uint32(b), Int32(b), want)
		}
	}
}

func TestUint32AtEdges(t *testing.T) {
	for _, b := range append(nones(), infinite, minusInf, 0, minusNought, tiniest, tiniest|minusNought, f(0.999), f(-0.999), f(1<<32), f(-1<<32), f(1<<90), greatest, greatest|minusNought) {
		if Uint32(b) != 0 || Int32(b) != 0 {
			t.Errorf("%x: %d, %d", b, Uint32(b), Int32(b))
		}
	}
	for _, x := range []struct {
		f float64
		u uint32
		i int32
	}{
		{1, 1, 1}, {-1, 4294967295, -1}, {1.9, 1, 1}, {-1.9, 4294967295, -1}, {-3.5, 4294967293, -3},
		{1<<31 - 1, 1<<31 - 1, 1<<31 - 1}, {1 << 31, 1 << 31, -1 << 31}, {1<<31 + 1, 1<<31 + 1, 1 - 1<<31}, {-1 << 31, 1 << 31, -1 << 31}, {-1<<31 - 1, 1<<31 - 1, 1<<31 - 1},
		{1<<32 - 1, 4294967295, -1}, {1<<32 + 7, 7, 7}, {-1<<32 - 7, 4294967289, -7}, {1<<32 + 0.5, 0, 0}, {-1<<32 + 0.5, 1, 1},
		{1<<53 - 1, 4294967295, -1}, {-(1<<53 - 1), 1, 1}, {1<<53 + 2, 2, 2}, {1<<60 + 1<<20, 1 << 20, 1 << 20}, {1<<83 + 1<<31, 1 << 31, -1 << 31}, {1<<84 + 1<<32, 0, 0},
	} {
		if u, i := Uint32(f(x.f)), Int32(f(x.f)); u != x.u || i != x.i {
			t.Errorf("%v: %d, %d", x.f, u, i)
		}
	}
}
