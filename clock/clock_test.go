package clock_test

import (
	"math"
	"testing"

	"consulate/api"
	"consulate/clock"
)

const last = int64(api.MaxTicks)

// at is a clock of that time.
func at(t *testing.T, now int64) *clock.Clock {
	t.Helper()
	c, e := clock.New(now)
	if e != api.OK || c == nil {
		t.Fatalf("no clock at %d: %v, %d", now, c, e)
	}
	return c
}

// start starts a timer that may be started.
func start(t *testing.T, c *clock.Clock, timer int, ticks int64) {
	t.Helper()
	if e := c.Start(timer, ticks); e != api.OK {
		t.Fatalf("Start(%d, %d): %d", timer, ticks, e)
	}
}

// wantLeft holds all timers against what they have left; -1 is of none that
// runs.
func wantLeft(t *testing.T, c *clock.Clock, want [clock.Timers]int64) {
	t.Helper()
	for timer, w := range want {
		ticks, runs := c.Left(timer)
		if w < 0 && (runs || ticks != 0) || w >= 0 && (!runs || ticks != w) {
			t.Errorf("timer %d has %d left, %t, not %d", timer, ticks, runs, w)
		}
	}
}

func wantNow(t *testing.T, c *clock.Clock, want int64) {
	t.Helper()
	if now := c.Now(); now != want {
		t.Errorf("it is %d, not %d", now, want)
	}
}

func wantNext(t *testing.T, c *clock.Clock, timer int, time int64) {
	t.Helper()
	if n, a, is := c.Next(); n != timer || a != time || !is {
		t.Errorf("next is %d at %d, %t, not %d at %d", n, a, is, timer, time)
	}
}

func wantNone(t *testing.T, c *clock.Clock) {
	t.Helper()
	if n, a, is := c.Next(); n != 0 || a != 0 || is {
		t.Errorf("next is %d at %d, %t, not none", n, a, is)
	}
}

// wantRing lets the clock go, and holds what rings then against timer and now.
func wantRing(t *testing.T, c *clock.Clock, until int64, timer int, now int64) {
	t.Helper()
	if n, rang := c.Go(until); n != timer || !rang {
		t.Errorf("Go(%d): %d, %t, not %d", until, n, rang, timer)
	}
	wantNow(t, c, now)
	if ticks, runs := c.Left(timer); ticks != 0 || runs {
		t.Errorf("timer %d rang and has %d left, %t", timer, ticks, runs)
	}
}

// wantQuiet lets the clock go, and nothing rings.
func wantQuiet(t *testing.T, c *clock.Clock, until, now int64) {
	t.Helper()
	if n, rang := c.Go(until); n != 0 || rang {
		t.Errorf("Go(%d): %d, %t, not quiet", until, n, rang)
	}
	wantNow(t, c, now)
}

var stopped = [clock.Timers]int64{-1, -1, -1, -1}

func TestNames(t *testing.T) {
	if clock.Retry != 0 || clock.Hold != 1 || clock.Keep != 2 || clock.Idle != 3 || clock.Timers != 4 {
		t.Error("a timer has another number")
	}
	if clock.RetryTime != 120 || clock.HoldTime != 90 || clock.LongHold != 240 {
		t.Error("a usual time is another one")
	}
}

func TestNew(t *testing.T) {
	for _, now := range []int64{0, 1, 90, 1 << 31, 1 << 32, last - 1, last} {
		c := at(t, now)
		wantNow(t, c, now)
		wantLeft(t, c, stopped)
		wantNone(t, c)
	}
	for _, now := range []int64{-1, -2, -last, math.MinInt64, last + 1, last + 2, math.MaxInt64} {
		if c, e := clock.New(now); c != nil || e != api.ErrArg {
			t.Errorf("New(%d): %v, %d", now, c, e)
		}
	}
}

func TestStart(t *testing.T) {
	c := at(t, 10)
	start(t, c, clock.Hold, 9)
	wantLeft(t, c, [4]int64{-1, 9, -1, -1})
	start(t, c, clock.Retry, 0)
	start(t, c, clock.Keep, 1)
	start(t, c, clock.Idle, 5)
	wantLeft(t, c, [4]int64{0, 9, 1, 5})
	wantNow(t, c, 10)
	for _, ticks := range []int64{12, 3, 3, 0, 7} {
		start(t, c, clock.Hold, ticks)
		wantLeft(t, c, [4]int64{0, ticks, 1, 5})
	}
}

func TestStartIsFromNowOn(t *testing.T) {
	c := at(t, 10)
	start(t, c, clock.Hold, 9)
	wantQuiet(t, c, 14, 14)
	wantLeft(t, c, [4]int64{-1, 5, -1, -1})
	start(t, c, clock.Hold, 9)
	wantLeft(t, c, [4]int64{-1, 9, -1, -1})
	wantNext(t, c, clock.Hold, 23)
	wantRing(t, c, 23, clock.Hold, 23)
	start(t, c, clock.Hold, 1)
	wantNext(t, c, clock.Hold, 24)
}

// TestStartAtMost: no timer runs for longer than there is time.
func TestStartAtMost(t *testing.T) {
	for _, now := range []int64{0, 1, 5, last - 3, last - 1, last} {
		for _, ticks := range []int64{0, 1, 2, 3, 4, last - 6, last - 5, last - 1, last, last + 1, math.MaxInt64 - last, math.MaxInt64 - 1, math.MaxInt64} {
			c := at(t, now)
			start(t, c, clock.Keep, ticks)
			left := ticks
			if left > last-now {
				left = last - now
			}
			wantLeft(t, c, [4]int64{-1, -1, left, -1})
			wantNext(t, c, clock.Keep, now+left)
			wantRing(t, c, math.MaxInt64, clock.Keep, now+left)
			wantQuiet(t, c, math.MaxInt64, last)
		}
	}
}

func TestStop(t *testing.T) {
	c := at(t, 0)
	for timer := range clock.Timers {
		start(t, c, timer, 4)
	}
	if e := c.Stop(clock.Keep); e != api.OK {
		t.Error(e)
	}
	wantLeft(t, c, [4]int64{4, 4, -1, 4})
	if e := c.Stop(clock.Keep); e != api.OK {
		t.Error("what does not run may be stopped, too:", e)
	}
	wantLeft(t, c, [4]int64{4, 4, -1, 4})
	c.Stop(clock.Retry)
	wantNext(t, c, clock.Hold, 4)
	c.Stop(clock.Hold)
	wantNext(t, c, clock.Idle, 4)
	c.Stop(clock.Idle)
	wantNone(t, c)
	wantQuiet(t, c, 9, 9)
	start(t, c, clock.Keep, 1)
	wantLeft(t, c, [4]int64{-1, -1, 1, -1})
}

// TestWrongTimers: nothing comes of them.
func TestWrongTimers(t *testing.T) {
	for _, timer := range []int{-1, -2, 4, 5, 256, 1 << 20, math.MinInt, math.MaxInt} {
		c := at(t, 3)
		for which := range clock.Timers {
			start(t, c, which, 7)
		}
		for _, ticks := range []int64{0, 1, -1} {
			if e := c.Start(timer, ticks); e != api.ErrArg {
				t.Errorf("Start(%d, %d): %d", timer, ticks, e)
			}
		}
		if e := c.Stop(timer); e != api.ErrArg {
			t.Errorf("Stop(%d): %d", timer, e)
		}
		if ticks, runs := c.Left(timer); ticks != 0 || runs {
			t.Errorf("Left(%d): %d, %t", timer, ticks, runs)
		}
		wantLeft(t, c, [4]int64{7, 7, 7, 7})
		wantNow(t, c, 3)
	}
}

func TestWrongTicks(t *testing.T) {
	for _, ticks := range []int64{-1, -2, -last, math.MinInt64} {
		c := at(t, 3)
		start(t, c, clock.Hold, 7)
		for timer := range clock.Timers {
			if e := c.Start(timer, ticks); e != api.ErrArg {
				t.Errorf("Start(%d, %d): %d", timer, ticks, e)
			}
		}
		wantLeft(t, c, [4]int64{-1, 7, -1, -1})
	}
}

// TestNoClock: of none, and of one that New did not make.
func TestNoClock(t *testing.T) {
	for _, c := range []*clock.Clock{nil, {}, new(clock.Clock)} {
		for _, timer := range []int{0, 3, -1, 4} {
			if e := c.Start(timer, 5); e != api.ErrNil {
				t.Errorf("Start(%d, 5): %d", timer, e)
			}
			if e := c.Start(timer, -1); e != api.ErrNil {
				t.Errorf("Start(%d, -1): %d", timer, e)
			}
			if e := c.Stop(timer); e != api.ErrNil {
				t.Errorf("Stop(%d): %d", timer, e)
			}
			if ticks, runs := c.Left(timer); ticks != 0 || runs {
				t.Errorf("Left(%d): %d, %t", timer, ticks, runs)
			}
		}
		wantNone(t, c)
		wantQuiet(t, c, 7, 0)
		wantQuiet(t, c, -7, 0)
		wantNone(t, c)
	}
	var none *clock.Clock
	if c := none.Copy(); c != nil {
		t.Error("none has a copy:", c)
	}
}

// TestCopy: whatever is done with one, the other stays as it is.
func TestCopy(t *testing.T) {
	c := at(t, 5)
	start(t, c, clock.Hold, 9)
	start(t, c, clock.Keep, 3)
	d := c.Copy()
	if d == nil || d == c {
		t.Fatal("it is no other clock:", d)
	}
	wantNow(t, d, 5)
	wantLeft(t, d, [4]int64{-1, 9, 3, -1})
	wantRing(t, d, 20, clock.Keep, 8)
	start(t, d, clock.Idle, 1)
	d.Stop(clock.Hold)
	wantNow(t, c, 5)
	wantLeft(t, c, [4]int64{-1, 9, 3, -1})
	c.Stop(clock.Keep)
	start(t, c, clock.Retry, 2)
	wantQuiet(t, c, 6, 6)
	wantNow(t, d, 8)
	wantLeft(t, d, [4]int64{-1, -1, -1, 1})
	wantNext(t, d.Copy().Copy(), clock.Idle, 9)
}

// TestNextInOrder: by their times, of equal ones by their numbers.
func TestNextInOrder(t *testing.T) {
	for row := range 5 * 5 * 5 * 5 {
		c := at(t, 2)
		first, time := -1, int64(math.MaxInt64)
		for timer, rest := 0, row; timer < clock.Timers; timer, rest = timer+1, rest/5 {
			if rest%5 == 4 {
				continue
			}
			start(t, c, timer, int64(rest%5))
			if a := 2 + int64(rest%5); a < time {
				first, time = timer, a
			}
		}
		if first < 0 {
			wantNone(t, c)
			continue
		}
		wantNext(t, c, first, time)
		wantNext(t, c, first, time)
		wantNow(t, c, 2)
		wantRing(t, c, 2+3, first, time)
	}
}

func TestGoWithoutTimers(t *testing.T) {
	c := at(t, 5)
	wantQuiet(t, c, 5, 5)
	wantQuiet(t, c, 6, 6)
	wantQuiet(t, c, 90, 90)
	for _, until := range []int64{89, 1, 0, -1, math.MinInt64} {
		wantQuiet(t, c, until, 90)
	}
	wantQuiet(t, c, last-1, last-1)
	wantQuiet(t, c, last+1, last)
	wantQuiet(t, c, math.MaxInt64, last)
	wantQuiet(t, c, 3, last)
}

// TestGoAroundATimer: it rings at its time, no tick ahead of that.
func TestGoAroundATimer(t *testing.T) {
	for timer := range clock.Timers {
		c := at(t, 10)
		start(t, c, timer, 5)
		wantQuiet(t, c, 10, 10)
		wantQuiet(t, c, 14, 14)
		wantNext(t, c, timer, 15)
		wantQuiet(t, c, 9, 14)
		wantRing(t, c.Copy(), 16, timer, 15)
		wantRing(t, c.Copy(), math.MaxInt64, timer, 15)
		wantRing(t, c, 15, timer, 15)
		wantNone(t, c)
		wantQuiet(t, c, 15, 15)
		wantQuiet(t, c, 16, 16)
	}
}

// TestGoBack: what is due now rings all the same, and time does not go back.
func TestGoBack(t *testing.T) {
	for _, until := range []int64{10, 9, 0, -1, math.MinInt64} {
		c := at(t, 10)
		start(t, c, clock.Idle, 0)
		start(t, c, clock.Hold, 0)
		start(t, c, clock.Keep, 1)
		wantRing(t, c, until, clock.Hold, 10)
		wantRing(t, c, until, clock.Idle, 10)
		wantQuiet(t, c, until, 10)
		wantLeft(t, c, [4]int64{-1, -1, 1, -1})
	}
}

func TestGoAsTheChapterTells(t *testing.T) {
	c := at(t, 0)
	start(t, c, clock.Hold, 9)
	start(t, c, clock.Keep, 3)
	start(t, c, clock.Retry, 3)
	wantRing(t, c, 10, clock.Retry, 3)
	wantRing(t, c, 10, clock.Keep, 3)
	start(t, c, clock.Keep, 3)
	wantQuiet(t, c, 5, 5)
	wantRing(t, c, 10, clock.Keep, 6)
	wantRing(t, c, 10, clock.Hold, 9)
	wantQuiet(t, c, 10, 10)
}

func TestAgreed(t *testing.T) {
	for _, c := range []struct{ ours, theirs, hold, keep int64 }{
		{90, 90, 90, 30},
		{90, 180, 90, 30},
		{180, 90, 90, 30},
		{90, 3, 3, 1},
		{90, 4, 4, 1},
		{90, 5, 5, 1},
		{90, 6, 6, 2},
		{90, 2, 2, 1},
		{1, 90, 1, 1},
		{90, 0, 0, 0},
		{0, 90, 0, 0},
		{0, 0, 0, 0},
		{65535, 65535, 65535, 21845},
		{65534, 65535, 65534, 21844},
		{90, -1, 0, 0},
		{-1, 90, 0, 0},
		{-1, -90, 0, 0},
		{math.MinInt64, math.MaxInt64, 0, 0},
		{math.MinInt64, 0, 0, 0},
		{math.MaxInt64, math.MaxInt64, math.MaxInt64, math.MaxInt64 / 3},
		{math.MaxInt64, 1 << 40, 1 << 40, 366503875925},
	} {
		if hold, keep := clock.Agreed(c.ours, c.theirs); hold != c.hold || keep != c.keep {
			t.Errorf("Agreed(%d, %d): %d, %d, not %d, %d", c.ours, c.theirs, hold, keep, c.hold, c.keep)
		}
	}
}

// TestAgreedOfEachTime: a third of it is what three times is not more than it.
func TestAgreedOfEachTime(t *testing.T) {
	for time := int64(1); time <= 65535; time++ {
		for _, more := range []int64{0, 1, 1000} {
			hold, keep := clock.Agreed(time, time+more)
			turned, too := clock.Agreed(time+more, time)
			if hold != time || turned != time || keep != too {
				t.Fatalf("%d and %d more: %d, %d and %d, %d", time, more, hold, keep, turned, too)
			}
			if keep < 1 || keep*3 > time && keep != 1 || (keep+1)*3 <= time {
				t.Fatalf("%d has the keep time %d", time, keep)
			}
		}
	}
}
