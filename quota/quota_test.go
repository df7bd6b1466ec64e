package quota_test

import (
	"math"
	"math/rand/v2"
	"testing"

	"bilander/api"
	"bilander/quota"
)

const top = 1 << 30

// P23.1
func TestCheckAndNew(t *testing.T) {
	for i, c := range []struct {
		b quota.Bucket
		e api.Errno
	}{
		{quota.Bucket{}, api.OK}, {quota.Bucket{Size: top, Rate: top, Level: top, At: api.MaxTime}, api.OK}, {quota.Bucket{Size: 3, Level: 4}, api.ErrRange},
		{quota.Bucket{Size: top + 1}, api.ErrRange}, {quota.Bucket{Size: -1, Level: -1}, api.ErrRange}, {quota.Bucket{Rate: top + 1}, api.ErrRange}, {quota.Bucket{Rate: -1}, api.ErrRange},
		{quota.Bucket{Level: -1}, api.ErrRange}, {quota.Bucket{At: -1}, api.ErrRange}, {quota.Bucket{At: api.MaxTime + 1}, api.ErrRange},
	} {
		if quota.Check(c.b) != c.e {
			t.Error(i)
		}
	}
	for i, c := range []struct {
		size, rate, now int
		e               api.Errno
	}{{10, 2, 5, api.OK}, {0, 0, 0, api.OK}, {-1, 0, 0, api.ErrRange}, {1, -1, 0, api.ErrRange}, {1, 1, -1, api.ErrRange}, {math.MaxInt, 1, 1, api.ErrRange}} {
		b, e := quota.New(c.size, c.rate, c.now)
		if e != c.e || e == api.OK && b != (quota.Bucket{Size: c.size, Rate: c.rate, Level: c.size, At: c.now}) || e != api.OK && b != (quota.Bucket{}) {
			t.Error(i, b, e)
		}
	}
}

// P23.2
func TestFill(t *testing.T) {
	b := quota.Bucket{Size: 10, Rate: 3, Level: 1, At: 5}
	for now, level := range map[int]int{5: 1, 6: 4, 7: 7, 8: 10, 9: 10, api.MaxTime: 10} {
		if f := quota.Fill(b, now); f != (quota.Bucket{Size: 10, Rate: 3, Level: level, At: now}) {
			t.Error(now, f)
		}
	}
	for _, now := range []int{4, -1, math.MinInt, api.MaxTime + 1, math.MaxInt} {
		if quota.Fill(b, now) != b {
			t.Error(now)
		}
	}
	odd := quota.Bucket{Size: 3, Rate: 1, Level: 4}
	if quota.Fill(odd, 9) != odd {
		t.Error("odd")
	}
	if f := quota.Fill(quota.Bucket{Size: 9, Level: 4}, 100); f != (quota.Bucket{Size: 9, Level: 4, At: 100}) {
		t.Error("without a rate", f)
	}
	if f := quota.Fill(quota.Bucket{Size: top, Rate: top}, api.MaxTime); f.Level != top {
		t.Error("a great product", f)
	}
}

// P23.3
func TestTake(t *testing.T) {
	b, _ := quota.New(10, 2, 0)
	for i, c := range []struct {
		b      quota.Bucket
		n, now int
		want   quota.Bucket
		e      api.Errno
	}{
		{b, 7, 0, quota.Bucket{Size: 10, Rate: 2, Level: 3}, api.OK}, {b, 10, 4, quota.Bucket{Size: 10, Rate: 2, At: 4}, api.OK}, {b, 11, 100, quota.Bucket{}, api.ErrQuota}, {b, -1, 0, quota.Bucket{}, api.ErrArg},
		{quota.Bucket{Level: 1}, -1, 0, quota.Bucket{}, api.ErrRange}, {quota.Bucket{Size: 10, Rate: 2, Level: 3}, 7, 1, quota.Bucket{}, api.ErrQuota}, {quota.Bucket{Size: 10, Rate: 2, Level: 3}, 7, 2, quota.Bucket{Size: 10, Rate: 2, At: 2}, api.OK},
		{quota.Bucket{Size: 10, Rate: 2, Level: 3, At: 9}, 3, 2, quota.Bucket{Size: 10, Rate: 2, At: 9}, api.OK}, {b, math.MaxInt, 0, quota.Bucket{}, api.ErrQuota}, {b, 0, 0, b, api.OK},
	} {
		if got, e := quota.Take(c.b, c.n, c.now); got != c.want || e != c.e {
			t.Error(i, got, e)
		}
	}
}

// P23.4
func TestWait(t *testing.T) {
	b := quota.Bucket{Size: 10, Rate: 2, Level: 3, At: 9}
	for i, c := range []struct {
		b      quota.Bucket
		n, now int
		want   int
		ok     bool
	}{
		{b, 7, 9, 2, true}, {b, 7, 10, 1, true}, {b, 7, 11, 0, true}, {b, 7, 50, 0, true}, {b, 7, 5, 6, true}, {b, 3, 5, 4, true}, {b, 0, 0, 9, true}, {b, 8, 9, 3, true},
		{b, 11, 9, 0, false}, {b, -1, 9, 0, false}, {b, 1, -1, 0, false}, {b, 1, api.MaxTime + 1, 0, false}, {b, 1, api.MaxTime, 0, true}, {quota.Bucket{Level: 1}, 0, 0, 0, false},
		{quota.Bucket{Size: 9, Level: 2}, 3, 0, 0, false}, {quota.Bucket{Size: 9, Level: 2}, 2, 0, 0, true}, {quota.Bucket{Size: 9, Rate: 1, At: api.MaxTime - 1}, 2, 0, 0, false}, {quota.Bucket{Size: 9, Rate: 1, At: api.MaxTime - 1}, 1, 0, api.MaxTime, true},
	} {
		if n, ok := quota.Wait(c.b, c.n, c.now); n != c.want || ok != c.ok {
			t.Error(i, n, ok)
		}
	}
}

// P23.5
func TestNoMoreThan(t *testing.T) {
	r := rand.New(rand.NewPCG(23, 23))
	for range 300 {
		size, rate := r.IntN(30), r.IntN(5)
		b, _ := quota.New(size, rate, 0)
		now, taken := 0, 0
		for range 50 {
			now += r.IntN(4)
			n := r.IntN(15)
			wait, ok := quota.Wait(b, n, now)
			next, e := quota.Take(b, n, now)
			if (e == api.OK) != (ok && wait == 0) {
				t.Fatal(b, n, now, wait, ok, e)
			}
			if ok && wait > 0 {
				_, soon := quota.Take(b, n, now+wait-1)
				_, then := quota.Take(b, n, now+wait)
				if soon != api.ErrQuota || then != api.OK {
					t.Fatal(b, n, now, wait)
				}
			}
			if e == api.OK {
				b, taken = next, taken+n
			}
			if taken > size+rate*now || quota.Check(b) != api.OK {
				t.Fatal(taken, size, rate, now)
			}
		}
	}
}
