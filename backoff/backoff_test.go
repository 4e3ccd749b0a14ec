package backoff_test

import (
	"fmt"
	"math"
	"testing"

	"postchaise/api"
	"postchaise/backoff"
)

var (
	nan      = math.NaN()
	inf      = math.Inf(1)
	negative = math.Copysign(0, -1) // the nought with a sign
	tiny     = math.SmallestNonzeroFloat64
	huge     = math.MaxFloat64
)

const (
	top   = 1 << 30 // the greatest wait that a policy may mean
	least = -1 << 63
	most  = 1<<63 - 1
)

// otherNaN: one of other bits than nan.
func otherNaN() float64 { return math.Float64frombits(math.Float64bits(nan) ^ 1<<63 ^ 6) }

func above(x float64) float64 { return math.Nextafter(x, inf) }

func below(x float64) float64 { return math.Nextafter(x, -inf) }

func policy(least, factor, most float64) api.Policy {
	return api.Policy{Least: least, Factor: factor, Most: most}
}

// isAs: whether got is want, each as it prints.
func isAs(t *testing.T, what string, got, want any) {
	t.Helper()
	if a, b := fmt.Sprintf("%+v", got), fmt.Sprintf("%+v", want); a != b {
		t.Errorf("%s: %.2000s, want %.2000s", what, a, b)
	}
}

// The chapter's examples.
func TestExamples(t *testing.T) {
	waits := []int{}
	for fails := 1; fails <= 5; fails++ {
		waits = append(waits, backoff.Wait(policy(10, 2, 50), fails))
	}
	isAs(t, "Waits", waits, []int{10, 20, 40, 50, 50})
	for fails := 1; fails <= 5; fails++ {
		isAs(t, "a Factor NaN", backoff.Wait(policy(10, nan, 50), fails), 10)
	}
	isAs(t, "Less(-0, 0)", backoff.Less(negative, 0), true)
	isAs(t, "Smooth(2, 4, 0.5)", backoff.Smooth(2, 4, 0.5), 3)
}

// P21.1: each field at its edges, which are itself, and what it means beyond them; Right of those alone that stay.
func TestClean(t *testing.T) {
	for _, x := range []struct{ p, want api.Policy }{
		{policy(10, 2, 50), policy(10, 2, 50)},
		{policy(1.5, 1.25, 99.75), policy(1.5, 1.25, 99.75)},
		{api.Policy{}, policy(1, 1, 1)},
		{policy(nan, nan, nan), policy(1, 1, 1)},
		{policy(otherNaN(), otherNaN(), otherNaN()), policy(1, 1, 1)},
		{policy(inf, inf, inf), policy(top, 1000, top)},
		{policy(-inf, -inf, -inf), policy(1, 1, 1)},
		{policy(negative, negative, negative), policy(1, 1, 1)},
		{policy(huge, huge, huge), policy(top, 1000, top)},
		{policy(tiny, tiny, tiny), policy(1, 1, 1)},
		{policy(1, 2, 50), policy(1, 2, 50)},
		{policy(below(1), 2, 50), policy(1, 2, 50)},
		{policy(above(1), 2, 50), policy(above(1), 2, 50)},
		{policy(-10, 2, 50), policy(1, 2, 50)},
		{policy(nan, 2, 50), policy(1, 2, 50)},
		{policy(top, 2, top), policy(top, 2, top)},
		{policy(above(top), 2, top), policy(top, 2, top)},
		{policy(below(top), 2, top), policy(below(top), 2, top)},
		{policy(10, 1, 50), policy(10, 1, 50)},
		{policy(10, below(1), 50), policy(10, 1, 50)},
		{policy(10, -2, 50), policy(10, 1, 50)},
		{policy(10, 1000, 50), policy(10, 1000, 50)},
		{policy(10, above(1000), 50), policy(10, 1000, 50)},
		{policy(10, below(1000), 50), policy(10, below(1000), 50)},
		{policy(10, 2, 10), policy(10, 2, 10)},
		{policy(10, 2, below(10)), policy(10, 2, 10)},
		{policy(10, 2, -50), policy(10, 2, 10)},
		{policy(10, 2, nan), policy(10, 2, 10)},
		{policy(10, 2, 1), policy(10, 2, 10)},
		{policy(10, 2, top), policy(10, 2, top)},
		{policy(10, 2, above(top)), policy(10, 2, top)},
		{policy(10, 2, inf), policy(10, 2, top)},
		// Most begins at the Least that is meant, not at that which was told.
		{policy(-5, 2, -3), policy(1, 2, 1)},
		{policy(nan, 2, 0.5), policy(1, 2, 1)},
		{policy(inf, 2, 5), policy(top, 2, top)},
		{policy(0.25, 2, 0.5), policy(1, 2, 1)},
	} {
		isAs(t, fmt.Sprintf("Clean(%v)", x.p), backoff.Clean(x.p), x.want)
		isAs(t, fmt.Sprintf("Right(%v)", x.p), backoff.Right(x.p), x.p == x.want)
		isAs(t, fmt.Sprintf("Right(%v)", x.want), backoff.Right(x.want), true)
	}
}

// P21.1: what Right says, without Clean.
func TestRight(t *testing.T) {
	edges := []float64{nan, otherNaN(), -inf, -1, negative, 0, tiny, below(1), 1, above(1), 2.5, 1000, above(1000), top, above(top), huge, inf}
	rights := 0
	for _, l := range edges {
		for _, f := range edges {
			for _, m := range edges {
				want := l >= 1 && l <= top && f >= 1 && f <= 1000 && m >= l && m <= top
				isAs(t, fmt.Sprint("Right of ", l, f, m), backoff.Right(policy(l, f, m)), want)
				if want {
					rights++
				}
			}
		}
	}
	isAs(t, "how many are right", rights, 4*(6+5+4+3+2+1))
}

// P21.2: none behind no fail, the least behind one, no wait above the most, nothing behind the point, whatever the policy.
func TestWait(t *testing.T) {
	for _, x := range []struct {
		p           api.Policy
		fails, want int
	}{
		{policy(10, 2, 50), 0, 0},
		{policy(10, 2, 50), -1, 0},
		{policy(10, 2, 50), least, 0},
		{policy(10, 2, 50), most, 50},
		{policy(nan, nan, nan), 0, 0},
		{policy(inf, inf, inf), -7, 0},
		{api.Policy{}, 1, 1},
		{api.Policy{}, 1000, 1},
		{policy(nan, nan, nan), 3, 1},
		{policy(inf, 1, nan), 3, top},
		{policy(7, 3, inf), 1, 7},
		{policy(7, 3, inf), 4, 7 * 27},
		{policy(1, 2, inf), 30, 1 << 29},
		{policy(1, 2, inf), 31, top},
		{policy(1, 2, inf), 32, top},
		{policy(1, 2, inf), 5000, top},
		{policy(1, 2000, inf), 2, 1000},
		{policy(1, 2000, inf), 3, 1000000},
		{policy(5, 0.5, 50), 9, 5},
		{policy(5, 1, 50), most, 5},
		{policy(5, -3, 50), 9, 5},
		{policy(50, 2, 10), 1, 50},
		{policy(50, 2, 10), 7, 50},
		{policy(0.1, 3, 10), 1, 1}, // the policy that is meant
		{policy(0.1, 3, 10), 3, 9},
		{policy(0.1, 3, 10), 4, 10},
		{policy(1.5, 1, 2), 4, 1}, // without what is behind the point, and no nearer
		{policy(1.999, 1, 2), 4, 1},
		{policy(1.5, 1.5, 99), 2, 2}, // 2.25
		{policy(1.5, 1.5, 99), 3, 3}, // 3.375: what is behind the point is multiplied, too
		{policy(1.5, 1.5, 99), 4, 5}, // 5.0625
		{policy(1.5, 1.5, 4.75), 4, 4},
		{policy(1, 1.9, 9.99), 4, 6}, // 6.859
		{policy(1, 1.9, 9.99), 5, 9},
	} {
		isAs(t, fmt.Sprintf("Wait(%v, %d)", x.p, x.fails), backoff.Wait(x.p, x.fails), x.want)
	}
}

// P21.2: a wait is made longer a million times at most.
func TestWaitTimes(t *testing.T) {
	const times = 1000000
	p := policy(1000, 1.00001, inf)
	wait, ahead := 1000.0, 0.0
	for range times {
		ahead, wait = wait, float64(wait*1.00001)
	}
	isAs(t, "once less", backoff.Wait(p, times), int(ahead))
	for _, fails := range []int{times + 1, times + 2, times + 3, 2 * times, most} {
		isAs(t, fmt.Sprint("behind ", fails), backoff.Wait(p, fails), int(wait))
	}
	if int(ahead) == int(wait) || wait > top/2 {
		t.Errorf("no one could tell how often: %v, %v", ahead, wait)
	}
	// The least that makes a wait longer at all.
	isAs(t, "by as little as may be", backoff.Wait(policy(7, above(1), inf), most), 7)
}

// P21.3: when the next call may be: behind the last one, which is brought to what a time may be.
func TestNext(t *testing.T) {
	p := policy(10, 2, 50)
	for _, x := range []struct{ fails, last, want int }{
		{0, 0, 0}, {0, 7, 7}, {1, 7, 17}, {2, 7, 27}, {3, 7, 47}, {4, 7, 57}, {1000, 7, 57}, {most, 7, 57},
		{-1, 7, 7}, {least, 7, 7}, {1, 0, 10}, {1, -1, 10}, {2, least, 20}, {0, -5, 0},
		{0, api.MaxNumber, api.MaxNumber},
		{1, api.MaxNumber - 1, api.MaxNumber + 9},
		{1, api.MaxNumber, api.MaxNumber + 10},
		{1, api.MaxNumber + 1, api.MaxNumber + 10},
		{3, most, api.MaxNumber + 40},
	} {
		for _, why := range []api.Errno{api.OK, api.ErrBusy, -1, 1000} { // which has no say
			s := api.Status{Fails: x.fails, Last: x.last, Why: why}
			isAs(t, fmt.Sprintf("Next(%v)", s), backoff.Next(s, p), x.want)
		}
	}
	s := api.Status{Fails: 9, Last: 5}
	isAs(t, "a policy that means another one", backoff.Next(s, policy(nan, inf, inf)), 5+top)
	isAs(t, "a policy of noughts", backoff.Next(s, api.Policy{}), 6)
}

// P21.3: what is known behind a call, whatever was known ahead of it.
func TestAfter(t *testing.T) {
	for _, x := range []struct{ fails, want int }{
		{0, 1}, {1, 2}, {7, 8}, {-1, 1}, {-2, 1}, {least, 1}, {997, 998}, {998, 999}, {999, 1000}, {1000, 1000}, {1001, 1000}, {most, 1000},
	} {
		for _, last := range []int{0, 9, least, most} { // which has no say
			s := api.Status{Fails: x.fails, Last: last, Why: api.ErrDown}
			for _, why := range []api.Errno{api.ErrBusy, api.ErrArg, 99, 100, -1, most, least} {
				isAs(t, "After a fail", backoff.After(s, 30, why), api.Status{Fails: x.want, Last: 30, Why: why})
			}
			isAs(t, "After a call that did not fail", backoff.After(s, 30, api.OK), api.Status{Last: 30})
		}
	}
	for _, x := range []struct{ now, want int }{
		{0, 0}, {1, 1}, {-1, 0}, {least, 0}, {api.MaxNumber - 1, api.MaxNumber - 1}, {api.MaxNumber, api.MaxNumber}, {api.MaxNumber + 1, api.MaxNumber}, {most, api.MaxNumber},
	} {
		s := api.Status{Fails: 3, Last: 9, Why: api.ErrDown}
		isAs(t, "After", backoff.After(s, x.now, api.ErrState), api.Status{Fails: 4, Last: x.want, Why: api.ErrState})
		isAs(t, "After", backoff.After(s, x.now, api.OK), api.Status{Last: x.want})
	}
}

// P21.4: floats as they rise, each held against each.
func TestLess(t *testing.T) {
	rising := []float64{-inf, -huge, -top, -1.5, below(-1), -1, above(-1), -tiny, negative, 0, tiny, below(1), 1, above(1), 1.5, top, huge, inf, nan}
	for i, a := range rising {
		for j, b := range rising {
			isAs(t, fmt.Sprintf("Less(%v, %v)", a, b), backoff.Less(a, b), i < j)
		}
	}
	for _, a := range []float64{nan, otherNaN(), -nan} {
		for _, b := range []float64{nan, otherNaN(), -nan} {
			isAs(t, "Less of two NaNs", backoff.Less(a, b), false)
		}
		isAs(t, "Less of a NaN", backoff.Less(a, inf), false)
		isAs(t, "Less of what is ahead of a NaN", backoff.Less(inf, a), true)
	}
}

// P21.5: each of the cases ahead of the next one, and what is between.
func TestSmooth(t *testing.T) {
	for _, c := range []struct{ old, x, alpha, want float64 }{
		{2, 4, 0.5, 3},
		{4, 2, 0.25, 3.5},
		{-1, 3, 0.25, 0},
		{10, 0, 0.1, 9},
		{0, 10, 0.1, 1},
		// x is NaN: old, whatever the others are.
		{2, nan, 0.5, 2}, {2, otherNaN(), 1, 2}, {2, nan, nan, 2}, {nan, nan, 0.5, nan}, {nan, nan, 1, nan}, {inf, nan, 7, inf},
		// old or alpha is NaN, or alpha is at least 1: x.
		{nan, 4, 0.5, 4}, {nan, 4, 0, 4}, {nan, 4, -1, 4}, {otherNaN(), 4, nan, 4}, {2, 4, nan, 4}, {2, 4, 1, 4}, {2, 4, 7, 4}, {2, 4, inf, 4},
		{2, inf, 1, inf}, {2, -inf, nan, -inf}, {0, negative, 1, negative}, {negative, 0, nan, 0},
		// alpha is at most 0, or x equals old: old.
		{2, 4, 0, 2}, {2, 4, negative, 2}, {2, 4, -1, 2}, {2, 4, -inf, 2}, {inf, 4, 0, inf}, {2, inf, 0, 2},
		{3, 3, 0.5, 3}, {inf, inf, 0.5, inf}, {-inf, -inf, 0.5, -inf}, {0, negative, 0.5, 0}, {negative, 0, 0.5, negative},
		{0.1, 0.1, 0.3, 0.1},
		// x, where the sum is no number.
		{-inf, inf, 0.5, inf}, {inf, -inf, 0.5, -inf},
		// Endless ones else.
		{inf, 4, 0.5, inf}, {4, inf, 0.5, inf}, {-inf, 4, 0.5, -inf}, {4, -inf, 0.5, -inf}, {4, inf, tiny, inf}, {inf, 4, below(1), inf},
		// The edges of alpha.
		{2, 4, tiny, 2}, {2, 1 << 60, below(1), 1<<60 - 128}, {0, 1, below(1), below(1)},
		// Sums that leave what is between by a last bit: brought back.
		{1.1, above(1.1), 0.01, 1.1}, {1.3, above(1.3), 0.05, 1.3}, {0.1, below(0.1), 0.2, 0.1}, {0.9, below(0.9), 0.41, 0.9},
		// The least ones, and the greatest ones.
		{0, tiny, 0.75, tiny}, {0, tiny, 0.25, 0}, {-tiny, tiny, 0.5, 0}, {tiny, -tiny, 0.75, -tiny}, {negative, -tiny, 0.25, negative},
		{huge, -huge, 0.5, 0}, {huge, below(huge), tiny, huge}, {-huge, huge, 0.5, 0},
	} {
		got := backoff.Smooth(c.old, c.x, c.alpha)
		isAs(t, fmt.Sprintf("Smooth(%v, %v, %v)", c.old, c.x, c.alpha), got, c.want)
		if math.Signbit(got) != math.Signbit(c.want) && got == got {
			t.Errorf("Smooth(%v, %v, %v): the sign of %v", c.old, c.x, c.alpha, got)
		}
	}
}
