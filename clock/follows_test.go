package clock_test

import (
	"fmt"
	"slices"
	"testing"

	"consulate/api"
	"consulate/clock"
)

// due is a timer that runs, and until when.
type due struct {
	at    int64
	timer int
}

// model is what the chapter says of a clock: its time, and what is due, in
// order.
type model struct {
	now  int64
	dues []due
}

func (m model) stop(timer int) model {
	m.dues = slices.DeleteFunc(slices.Clone(m.dues), func(d due) bool { return d.timer == timer })
	return m
}

func (m model) start(timer int, ticks int64) model {
	at := last
	if ticks < last-m.now {
		at = m.now + ticks
	}
	m = m.stop(timer)
	m.dues = append(m.dues, due{at, timer})
	slices.SortFunc(m.dues, func(a, b due) int {
		if a.at != b.at {
			return int(max(-1, min(1, a.at-b.at)))
		}
		return a.timer - b.timer
	})
	return m
}

func (m model) goes(until int64) (model, int, bool) {
	if len(m.dues) > 0 && (m.dues[0].at <= until || m.dues[0].at <= m.now) {
		d := m.dues[0]
		m.now, m.dues = d.at, m.dues[1:]
		return m, d.timer, true
	}
	if m.now < until {
		m.now = min(until, last)
	}
	return m, 0, false
}

// wantModel holds all that is told of a clock against the model.
func wantModel(t *testing.T, did string, c *clock.Clock, m model) {
	t.Helper()
	if c.Now() != m.now {
		t.Fatalf("%s: it is %d, not %d", did, c.Now(), m.now)
	}
	var first due
	if len(m.dues) > 0 {
		first = m.dues[0]
	}
	if timer, at, is := c.Next(); (due{at, timer}) != first || is != (len(m.dues) > 0) {
		t.Fatalf("%s: next is %d at %d, %t, not %v", did, timer, at, is, m.dues)
	}
	for timer := range clock.Timers {
		i := slices.IndexFunc(m.dues, func(d due) bool { return d.timer == timer })
		ticks, runs := c.Left(timer)
		if runs != (i >= 0) || !runs && ticks != 0 || runs && ticks != m.dues[i].at-m.now {
			t.Fatalf("%s: timer %d has %d left, %t, not %v", did, timer, ticks, runs, m.dues)
		}
	}
}

// step is something that is done with a clock.
type step struct {
	name  string
	timer int
	ticks int64
}

func (s step) String() string { return fmt.Sprintf("%s %d %d", s.name, s.timer, s.ticks) }

// take does the step with both, and holds what it tells.
func (s step) take(t *testing.T, did string, c *clock.Clock, m model) model {
	t.Helper()
	switch s.name {
	case "start":
		if e := c.Start(s.timer, s.ticks); e != api.OK {
			t.Fatalf("%s: %d", did, e)
		}
		return m.start(s.timer, s.ticks)
	case "stop":
		if e := c.Stop(s.timer); e != api.OK {
			t.Fatalf("%s: %d", did, e)
		}
		return m.stop(s.timer)
	}
	n, timer, rings := m.goes(m.now + s.ticks)
	if told, rang := c.Go(m.now + s.ticks); told != timer || rang != rings {
		t.Fatalf("%s: %d, %t, not %d, %t", did, told, rang, timer, rings)
	}
	return n
}

// TestEachSmallRow: all rows of four of some steps, on clocks around the
// beginning, the middle and the end of time. Each row lives on in a copy.
func TestEachSmallRow(t *testing.T) {
	steps := []step{{"stop", 1, 0}, {"stop", 2, 0}, {"go", 0, -1}, {"go", 0, 0}, {"go", 0, 1}, {"go", 0, 2}, {"go", 0, 9}}
	for timer := range clock.Timers {
		steps = append(steps, step{"start", timer, 0}, step{"start", timer, 1}, step{"start", timer, 2})
	}
	var grow func(did string, c *clock.Clock, m model, left int)
	grow = func(did string, c *clock.Clock, m model, left int) {
		wantModel(t, did, c, m)
		if left == 0 {
			return
		}
		for _, s := range steps {
			d := c.Copy()
			name := did + ", " + s.String()
			grow(name, d, s.take(t, name, d, m), left-1)
		}
		wantModel(t, did+" (and its copies lived on)", c, m)
	}
	for _, now := range []int64{0, 7, last - 1} {
		grow(fmt.Sprint("at ", now), at(t, now), model{now: now}, 4)
	}
}

// draws answers numbers below those that it is asked for, the same ones for
// each seed.
func draws(seed uint64) func(int64) int64 {
	return func(below int64) int64 {
		seed = seed*6364136223846793005 + 1442695040888963407
		return int64(seed>>24) % below
	}
}

// drawn is a step that is drawn, with ticks of all sizes.
func drawn(draw func(int64) int64) step {
	ticks := draw(1 << draw(42))
	switch draw(5) {
	case 0, 1:
		return step{"start", int(draw(clock.Timers)), ticks}
	case 2:
		return step{"stop", int(draw(clock.Timers)), 0}
	}
	if draw(4) == 0 {
		ticks = -ticks
	}
	return step{"go", 0, ticks}
}

func TestDrawnRows(t *testing.T) {
	for seed := range uint64(400) {
		draw := draws(seed)
		now := draw(1<<draw(41) + 1)
		c, m := at(t, now), model{now: now}
		for many := range 200 {
			s := drawn(draw)
			did := fmt.Sprintf("seed %d, step %d, %v", seed, many, s)
			m = s.take(t, did, c, m)
			wantModel(t, did, c, m)
		}
	}
}

// ring is a timer that rang, and when.
type ring struct {
	timer int
	now   int64
}

// rings asks a clock again and again up to one time.
func rings(t *testing.T, c *clock.Clock, until int64) []ring {
	t.Helper()
	var rang []ring
	for len(rang) <= clock.Timers {
		ahead := c.Now()
		timer, is := c.Go(until)
		if c.Now() < ahead {
			t.Fatalf("time went back from %d to %d", ahead, c.Now())
		}
		if !is {
			break
		}
		rang = append(rang, ring{timer, c.Now()})
	}
	return rang
}

// drawnClock is a clock with some timers that run.
func drawnClock(t *testing.T, draw func(int64) int64) *clock.Clock {
	t.Helper()
	c := at(t, draw(20))
	for timer := range clock.Timers {
		if draw(4) > 0 {
			start(t, c, timer, draw(12))
		}
	}
	return c
}

// TestRingsInOrder is P13.4: what was due, in order, each once; then it is
// that time.
func TestRingsInOrder(t *testing.T) {
	for seed := range uint64(3000) {
		draw := draws(seed)
		c := drawnClock(t, draw)
		until := c.Now() + draw(14)
		var want []ring
		for time := c.Now(); time <= until; time++ {
			for timer := range clock.Timers {
				if ticks, runs := c.Left(timer); runs && c.Now()+ticks == time {
					want = append(want, ring{timer, time})
				}
			}
		}
		if got := rings(t, c, until); !slices.Equal(got, want) {
			t.Fatalf("seed %d: %v, not %v", seed, got, want)
		}
		wantNow(t, c, until)
		if got := rings(t, c, until); got != nil {
			t.Fatalf("seed %d: %v rang twice", seed, got)
		}
	}
}

// TestRingsInParts is P13.5: whatever the parts.
func TestRingsInParts(t *testing.T) {
	for seed := range uint64(3000) {
		draw := draws(seed)
		c := drawnClock(t, draw)
		parts := c.Copy()
		until := c.Now() + draw(14)
		want := rings(t, c, until)
		var got []ring
		for time := parts.Now(); time < until; time += draw(3) {
			got = append(got, rings(t, parts, time)...)
		}
		got = append(got, rings(t, parts, until)...)
		if !slices.Equal(got, want) {
			t.Fatalf("seed %d: %v in parts, %v at once", seed, got, want)
		}
		wantNow(t, parts, until)
		for timer := range clock.Timers {
			a, is := c.Left(timer)
			b, too := parts.Left(timer)
			if a != b || is != too {
				t.Fatalf("seed %d: timer %d has %d, %t left in parts, %d, %t at once", seed, timer, b, too, a, is)
			}
		}
	}
}
