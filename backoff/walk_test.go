package backoff_test

import (
	"fmt"
	"math"
	"math/big"
	"math/rand/v2"
	"testing"

	"postchaise/api"
	"postchaise/backoff"
	"postchaise/disk"
)

// exact: x as a number that is rounded to a float64's bits by each operation, and by none more than once.
func exact(x float64) *big.Float { return new(big.Float).SetPrec(53).SetFloat64(x) }

func product(a, b *big.Float) *big.Float { return new(big.Float).SetPrec(53).Mul(a, b) }

func sum(a, b *big.Float) *big.Float { return new(big.Float).SetPrec(53).Add(a, b) }

// againWait: P21.2 written once more, of policies that are their own Clean.
func againWait(p api.Policy, fails int) int {
	if fails < 1 {
		return 0
	}
	wait := exact(p.Least)
	for range fails - 1 {
		wait = product(wait, exact(p.Factor))
		if wait.Cmp(exact(p.Most)) > 0 {
			wait = exact(p.Most)
		}
	}
	n, _ := wait.Int64()
	return int(n)
}

// againSmooth: the last case of P21.5 written once more.
func againSmooth(old, x, alpha float64) float64 {
	rest := sum(exact(1), exact(-alpha))
	s, _ := sum(product(exact(alpha), exact(x)), product(rest, exact(old))).Float64()
	switch {
	case s < old && s < x:
		return math.Min(old, x)
	case s > old && s > x:
		return math.Max(old, x)
	}
	return s
}

// rank: a number that rises as the floats do in their order.
func rank(x float64) uint64 {
	b := math.Float64bits(x)
	switch {
	case x != x:
		return math.MaxUint64
	case b>>63 == 1:
		return ^b
	}
	return b | 1<<63
}

// anyFloat: one of any bits, or one of those at the edges.
func anyFloat(r *rand.Rand) float64 {
	edges := []float64{nan, inf, -inf, negative, 0, tiny, -tiny, huge, -huge, 1, -1, 0.5, 1000, top}
	switch r.IntN(4) {
	case 0:
		return edges[r.IntN(len(edges))]
	case 1:
		return float64(r.IntN(41)-20) / 4
	case 2:
		return above(edges[r.IntN(len(edges))])
	}
	return math.Float64frombits(r.Uint64())
}

// P21.2, P21.8: waits of policies as they may be, held against a second writing; none falls, and all are between the least and the most.
func TestAgainWait(t *testing.T) {
	r := rand.New(rand.NewPCG(21, 1))
	rises, broken := 0, 0
	for range 3000 {
		least := 1 + math.Exp(r.Float64()*20-3)
		p := policy(least, 1+r.Float64()*[]float64{0.001, 0.1, 1, 3, 999}[r.IntN(5)], math.Min(top, least*math.Exp(r.Float64()*15)))
		if !backoff.Right(p) {
			t.Fatalf("Right(%v): false", p)
		}
		ahead := 0
		for fails := range 40 {
			wait := backoff.Wait(p, fails)
			if want := againWait(p, fails); wait != want {
				t.Fatalf("Wait(%v, %d): %d, want %d", p, fails, wait, want)
			}
			if fails > 0 && (wait < ahead || wait < int(p.Least) || float64(wait) > p.Most) {
				t.Fatalf("Wait(%v, %d): %d, behind %d", p, fails, wait, ahead)
			}
			if wait > ahead {
				rises++
			}
			if float64(wait) == math.Trunc(p.Most) && p.Most != math.Trunc(p.Most) {
				broken++
			}
			ahead = wait
		}
	}
	if rises < 20000 || broken < 20000 {
		t.Errorf("too few waits that rise or are the most: %d, %d", rises, broken)
	}
}

// P21.1, P21.2, P21.8: policies of any floats mean one that is right, and their waits are its own.
func TestAnyPolicy(t *testing.T) {
	r := rand.New(rand.NewPCG(21, 2))
	rights := 0
	for range 20000 {
		p := policy(anyFloat(r), anyFloat(r), anyFloat(r))
		c := backoff.Clean(p)
		if !backoff.Right(c) || backoff.Clean(c) != c || backoff.Right(p) != (p == c) {
			t.Fatalf("Clean(%v): %v", p, c)
		}
		if backoff.Right(p) {
			rights++
		}
		ahead := 0
		for _, fails := range []int{-5, 0, 1, 2, 3, 10, 100} {
			wait := backoff.Wait(p, fails)
			if wait != backoff.Wait(c, fails) || wait != againWait(c, fails) || wait < ahead {
				t.Fatalf("Wait(%v, %d): %d, behind %d", p, fails, wait, ahead)
			}
			ahead = wait
		}
	}
	if rights < 50 {
		t.Errorf("too few policies that are right: %d", rights)
	}
}

// P21.4, P21.10: of any two floats just one comes ahead, or they are alike; what is ahead of one that is ahead is so, too.
func TestAgainLess(t *testing.T) {
	r := rand.New(rand.NewPCG(21, 3))
	for range 200000 {
		a, b, c := anyFloat(r), anyFloat(r), anyFloat(r)
		if backoff.Less(a, b) != (rank(a) < rank(b)) {
			t.Fatalf("Less(%v, %v): %v", a, b, backoff.Less(a, b))
		}
		if backoff.Less(a, b) && (backoff.Less(b, a) || backoff.Less(b, c) && !backoff.Less(a, c)) {
			t.Fatalf("Less of %v, %v, %v is no order", a, b, c)
		}
	}
}

// P21.5, P21.9: what is smoothed, held against a second writing.
func TestAgainSmooth(t *testing.T) {
	r := rand.New(rand.NewPCG(21, 4))
	brought := 0
	for range 200000 {
		old := (r.Float64() - 0.5) * math.Exp(r.Float64()*40-20)
		x := (r.Float64() - 0.5) * math.Exp(r.Float64()*40-20)
		if r.IntN(2) == 0 {
			x = above(old)
		}
		alpha := float64(1+r.IntN(99)) / 100
		if r.IntN(2) == 0 {
			alpha = 1 - r.Float64() // never 0
		}
		if alpha == 1 || x == old {
			continue
		}
		if got, want := backoff.Smooth(old, x, alpha), againSmooth(old, x, alpha); got != want {
			t.Fatalf("Smooth(%v, %v, %v): %v, want %v", old, x, alpha, got, want)
		}
		if s := float64(alpha*x) + float64((1-alpha)*old); s < math.Min(x, old) || s > math.Max(x, old) {
			brought++
		}
	}
	if brought < 500 {
		t.Errorf("too few sums that have to be brought back: %d", brought)
	}
}

// P21.5, P21.9: of any floats what is smoothed is between both, where neither is NaN.
func TestSmoothBetween(t *testing.T) {
	r := rand.New(rand.NewPCG(21, 5))
	between := 0
	for range 200000 {
		old, x, alpha := anyFloat(r), anyFloat(r), anyFloat(r)
		if r.IntN(2) == 0 {
			alpha = r.Float64()
		}
		s := backoff.Smooth(old, x, alpha)
		switch {
		case old != old && x != x:
			if s == s {
				t.Fatalf("Smooth(%v, %v, %v): %v", old, x, alpha, s)
			}
		case old != old:
			isAs(t, "old is NaN", s, x)
		case x != x:
			isAs(t, "x is NaN", s, old)
		case !(s >= math.Min(old, x) && s <= math.Max(old, x)):
			t.Fatalf("Smooth(%v, %v, %v): %v", old, x, alpha, s)
		case s != old && s != x:
			between++
		}
	}
	if between < 10000 {
		t.Errorf("too few that are neither: %d", between)
	}
}

// known: what was noted of a system.
type known struct {
	s    api.Status
	turn int
}

var someSystems = []string{"duke", "duk", "a", "zzzzzzz"}

// noted: what d has noted of all systems.
func noted(d api.Disk) map[string]known {
	m := map[string]known{}
	for _, system := range someSystems {
		m[system] = known{backoff.Get(d, system), backoff.Turn(d, system)}
	}
	return m
}

// P21.6, P21.7, P21.11: walks of notes on disks that go down at any step, and of other things that are done to them: a note whose call answered OK is read as it was written, behind any crash; one whose call did not is read as it was or as it was to be.
func TestWalk(t *testing.T) {
	r := rand.New(rand.NewPCG(21, 6))
	crashes, halves := 0, 0
	for range 200 {
		d := disk.New(400 + r.IntN(200))
		want := noted(d)
		for range 100 {
			system := someSystems[r.IntN(4)]
			k := want[system]
			d = disk.Arm(d, r.IntN(8)-1)
			if r.IntN(4) == 0 { // what others leave undone
				d, _ = disk.Append(d, "N", "x")
			}
			var e api.Errno
			if r.IntN(2) == 0 {
				k.s = backoff.After(k.s, r.IntN(100000), api.Errno(r.IntN(3)))
				d, e = backoff.Put(d, system, k.s)
			} else {
				k.turn = r.IntN(1000)
				d, e = backoff.SetTurn(d, system, k.turn)
			}
			ahead := fmt.Sprint(want)
			if e == api.OK {
				want[system] = k
			}
			if r.IntN(3) == 0 || d.Down {
				crashes++
				d = disk.Start(disk.Crash(d, r.IntN(4)))
			}
			got := fmt.Sprint(noted(d))
			if e == api.ErrDown && got != ahead {
				halves++
				want[system] = k
			}
			if got != fmt.Sprint(want) {
				t.Fatalf("behind error %d: %s, want %v", e, got, want)
			}
			if r.IntN(40) == 0 {
				d, want = disk.New(d.Cap), noted(disk.New(0))
			}
		}
	}
	if crashes < 5000 || halves < 300 {
		t.Errorf("too few crashes, or such as kept what was not done: %d, %d", crashes, halves)
	}
}
