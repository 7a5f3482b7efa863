package wheel_test

import (
	"fmt"
	"math/rand"
	"slices"
	"strings"
	"testing"

	"cloakroom/api"
	"cloakroom/wheel"
)

// P4.3: those of lesser moments first; of one moment by their tenants, then by their keys, byte by byte.
func TestOrderOfWhatIsDue(t *testing.T) {
	keys := []string{"\x00", "\x00\x00", "\x00a", " ", "1", "10", "2", "A", "B", "a", "a\x00", "aa", "ab", "b", strings.Repeat("b", maxKey), "z", "\x7f", "\x80", "é", "\xff", "\xff\xff"}
	for _, now := range []int{0, 63, 4000, 1<<36 - 1} {
		for _, step := range []int{1, 63, 64, 65, 4096, 1 << 24, 1 << 38} {
			var want []api.Name
			for tenant := range maxTenants {
				want = append(want, names(tenant, keys...)...)
			}
			for seed := range 5 {
				w := made(t, now)
				mixed := slices.Clone(want)
				rand.New(rand.NewSource(int64(seed))).Shuffle(len(mixed), func(i, j int) { mixed[i], mixed[j] = mixed[j], mixed[i] })
				for _, n := range mixed {
					checkErrno(t, n, w.Add(n, now+step), api.OK)
				}
				l, e := w.Tick(now + step - 1)
				checkDue(t, []any{now, step, "ahead"}, l, e)
				l, e = w.Tick(now + step)
				checkDue(t, []any{now, step}, l, e, want...)
			}
		}
	}
}

// P4.3: a lesser moment stands first, whatever the tenant and the key, be the moments of one ring or of others.
func TestLesserMomentsStandFirst(t *testing.T) {
	moments := []int{1, 2, 63, 64, 65, 127, 128, 4095, 4096, 4097, 8191, 8192, 1<<18 - 1, 1 << 18, 1<<24 + 1, 1 << 30, 1 << 36, 1<<39 + 64, maxClock - 1, maxClock}
	var want []api.Name
	w := made(t, 0)
	for i, until := range moments {
		n := name((len(moments)-i)%maxTenants, fmt.Sprintf("%02d", len(moments)-i))
		want = append(want, n)
		checkErrno(t, n, w.Add(n, until), api.OK)
	}
	l, e := w.Tick(maxClock)
	checkDue(t, "all", l, e, want...)
	newModel(maxClock).check(t, "behind it", w)
}

// P4.3: the edges of Tick's now; what is refused changes nothing.
func TestTickAtTheEdges(t *testing.T) {
	for _, now := range []int{0, 1, 10, 64, 4095, 1 << 36, maxClock - 1, maxClock} {
		until := map[api.Name]int{}
		for i, moment := range []int{now + 1, now + 2, maxClock} {
			if moment <= maxClock && moment > now {
				until[name(i, "a")] = moment
			}
		}
		w, m := both(t, now, until)
		for _, wrong := range []int{now - 1, now - 2, -1, -1 << 40, least, maxClock + 1, maxClock + 2, 1 << 41, top} {
			l, e := w.Tick(wrong)
			checkRefused(t, []any{now, wrong}, e, api.ErrArg, 0, l)
			m.check(t, []any{now, wrong}, w)
		}
		for range 2 {
			if l := tickBoth(t, w, m, now); len(l) != 0 {
				t.Error(now, "without a step these were due:", l)
			}
			m.check(t, now, w)
		}
		for range 2 {
			tickBoth(t, w, m, maxClock)
			m.check(t, now, w)
		}
		if many, _ := w.Len(); many != 0 {
			t.Error(now, "at the end there are still", many)
		}
	}
}

// P4.3: a clock that went on does not go back, also not to where it was made.
func TestTickNeverGoesBack(t *testing.T) {
	w, m := both(t, 10, map[api.Name]int{name(0, "a"): 30})
	tickBoth(t, w, m, 20)
	for _, now := range []int{19, 11, 10, 9, 0} {
		l, e := w.Tick(now)
		checkRefused(t, now, e, api.ErrArg, 0, l)
		m.check(t, now, w)
	}
	tickBoth(t, w, m, 20)
	tickBoth(t, w, m, 29)
	tickBoth(t, w, m, 30)
}

// P4.3: what was due is there no more, and is not due once more.
func TestDueOnce(t *testing.T) {
	w, m := both(t, 0, map[api.Name]int{name(0, "a"): 5, name(0, "b"): 70, name(0, "c"): 5000})
	for _, now := range []int{5, 5, 6, 70, 70, 71, 4999, 5000, 5000, 5001, maxClock, maxClock} {
		for _, n := range tickBoth(t, w, m, now) {
			until, e := w.Until(n)
			checkRefused(t, []any{now, n}, e, api.ErrNone, until, nil)
			checkErrno(t, []any{now, n}, w.Del(n), api.ErrNone)
		}
		m.check(t, now, w)
	}
}

// P4.3, P4.5: moments, and steps of the clock, that differ in one bit or in two alone, also in high ones.
func TestMomentsThatDifferInFewBits(t *testing.T) {
	until := map[api.Name]int{}
	var moments []int
	for high := range 41 {
		for low := range high + 1 {
			moment := 1<<high | 1<<low
			if moment > maxClock {
				continue
			}
			moments = append(moments, moment)
			until[name(high%maxTenants, fmt.Sprint(high, " ", low))] = moment
		}
	}
	slices.Sort(moments)
	w, m := both(t, 0, until)
	tickBoth(t, w, m, maxClock)
	w, m = both(t, 0, until)
	for _, moment := range moments {
		tickBoth(t, w, m, moment-1)
		tickBoth(t, w, m, moment)
		m.check(t, moment, w)
	}
	for _, from := range moments {
		w, m = both(t, from, later(until, from))
		for bit := range 41 {
			if now := m.now ^ 1<<bit; now > m.now && now <= maxClock {
				tickBoth(t, w, m, now)
				m.check(t, []any{from, bit}, w)
			}
		}
		tickBoth(t, w, m, maxClock)
	}
}

// later is those names whose moments are above one.
func later(until map[api.Name]int, now int) map[api.Name]int {
	l := map[api.Name]int{}
	for n, moment := range until {
		if moment > now {
			l[n] = moment
		}
	}
	return l
}

// P4.3, P4.5: every moment near a place at which many bits turn at once.
func TestAcrossTurns(t *testing.T) {
	for _, bit := range []int{1, 5, 6, 7, 11, 12, 13, 18, 24, 29, 30, 36, 39, 40} {
		turn := 1 << bit
		for _, now := range []int{max(turn-70, 0), turn - 1} {
			until := map[api.Name]int{}
			for moment := now + 1; moment <= min(turn+70, maxClock); moment++ {
				until[name(moment%maxTenants, fmt.Sprint(moment))] = moment
				until[name(0, fmt.Sprint("0", moment))] = moment
			}
			w, m := both(t, now, until)
			for now := m.now; now <= min(turn+70, maxClock); now++ {
				tickBoth(t, w, m, now)
				m.check(t, []any{bit, now}, w)
			}
			w, m = both(t, now, until)
			for now := m.now; now <= min(turn+70, maxClock); now += 7 {
				tickBoth(t, w, m, now)
				m.check(t, []any{bit, now}, w)
			}
		}
	}
}

// someNames have moments above now, near ones and far ones, some of them the same.
func someNames(r *rand.Rand, now, many int) map[api.Name]int {
	until := map[api.Name]int{}
	for i := range many {
		moment := min(now+1+r.Intn(1<<r.Intn(41)), maxClock)
		if i%4 == 0 {
			moment = min((moment|63)+1, maxClock)
		}
		if moment > now {
			until[name(r.Intn(maxTenants), fmt.Sprint(r.Intn(1<<20)))] = moment
		}
	}
	return until
}

// P4.5: in one step or in many, the same names are due by then, in the same order.
func TestHoweverTheClockGoes(t *testing.T) {
	r := rand.New(rand.NewSource(45))
	for range 150 {
		now := r.Intn(1 << r.Intn(41))
		until := someNames(r, now, 60)
		end := min(now+r.Intn(1<<r.Intn(41)), maxClock)
		w, m := both(t, now, until)
		want := tickBoth(t, w, m, end)
		for range 4 {
			w, steps := both(t, now, until)
			var l []api.Name
			for at := now; at < end; {
				at = min(at+1+r.Intn(1<<r.Intn(41)), end)
				l = append(l, tickBoth(t, w, steps, at)...)
				steps.check(t, at, w)
			}
			if !slices.Equal(l, want) {
				t.Fatalf("from %d to %d: %v, in one step %v", now, end, l, want)
			}
			m.check(t, end, w)
		}
	}
}

// P4.5: moment by moment, or in one step.
func TestMomentByMoment(t *testing.T) {
	r := rand.New(rand.NewSource(5))
	for _, now := range []int{0, 1, 4000, 1<<18 - 300, 1<<36 - 5000, maxClock - 5000} {
		until := map[api.Name]int{}
		for range 300 {
			until[name(r.Intn(maxTenants), fmt.Sprint(r.Intn(1000)))] = now + 1 + r.Intn(5000)
		}
		w, m := both(t, now, until)
		var l []api.Name
		for at := now; at <= now+5000; at++ {
			l = append(l, tickBoth(t, w, m, at)...)
		}
		w, m = both(t, now, until)
		if want := tickBoth(t, w, m, now+5000); !slices.Equal(l, want) {
			t.Errorf("from %d: %v, in one step %v", now, l, want)
		}
		if len(l) != len(until) {
			t.Errorf("from %d: %d names were due, want %d", now, len(l), len(until))
		}
	}
}

// P4.2, P4.3, P4.5: anything at any time, held against a model that goes through all names.
func TestAnythingAtAnyTime(t *testing.T) {
	r := rand.New(rand.NewSource(4))
	for round := range 60 {
		now := r.Intn(1 << r.Intn(41))
		w, m := made(t, now), newModel(now)
		for i := range 400 {
			n := name(r.Intn(maxTenants), fmt.Sprint(r.Intn(25)))
			what := []any{round, i, n}
			switch r.Intn(8) {
			case 0, 1, 2, 3:
				until := m.now - 1 + r.Intn(1<<r.Intn(41)+1)
				checkErrno(t, what, w.Add(n, until), m.add(n, until))
			case 4:
				checkErrno(t, what, w.Del(n), m.del(n))
			default:
				tickBoth(t, w, m, m.now-1+r.Intn(1<<r.Intn(30)+1))
			}
			m.check(t, what, w)
		}
		tickBoth(t, w, m, maxClock)
		m.check(t, round, w)
	}
}

// P4.4: what is answered may be changed, and its spare room too, without a change of the wheel or of what it answers later.
func TestTickIsNewMemory(t *testing.T) {
	for _, many := range []int{1, 2, 3, 5, 40} {
		w, m := made(t, 0), newModel(0)
		for i := range many {
			for _, until := range []int{10, 100, 9000} {
				n := name(i%maxTenants, fmt.Sprint(until, " ", i))
				checkErrno(t, n, w.Add(n, until), api.OK)
				m.add(n, until)
			}
		}
		var answered, want [][]api.Name
		for _, now := range []int{10, 10, 100, 101, 8999, 9000} {
			l := tickBoth(t, w, m, now)
			answered, want = append(answered, l), append(want, slices.Clone(l))
			for i := range answered {
				if !slices.Equal(answered[i], want[i]) {
					t.Error(many, now, "an earlier answer changed")
				}
			}
			spoilt, e := w.Tick(now)
			checkDue(t, []any{many, now, "once more"}, spoilt, e)
			spoil(spoilt)
			spoil(answered[0])
			want[0] = slices.Clone(answered[0])
			m.check(t, []any{many, now}, w)
		}
	}
}

// spoil changes a list and its spare room.
func spoil(l []api.Name) {
	for i := range l[:cap(l)] {
		l[:cap(l)][i] = name(3, "spoilt")
	}
	_ = append(l, name(3, "behind"))
}

// P4.4: two wheels with the same names answer lists apart.
func TestAnswersOfTwoWheelsAreApart(t *testing.T) {
	until := map[api.Name]int{name(0, "a"): 5, name(0, "b"): 6, name(1, "a"): 6}
	a, ma := both(t, 0, clone(until))
	b, mb := both(t, 0, clone(until))
	la := tickBoth(t, a, ma, 6)
	lb := tickBoth(t, b, mb, 6)
	want := slices.Clone(lb)
	spoil(la)
	if !slices.Equal(lb, want) {
		t.Error("the other wheel's answer changed")
	}
}

// P4.5, R1: whatever a script does, a wheel does what the model does.
func FuzzWheel(f *testing.F) {
	f.Add(10, []byte{0, 1, 20, 8, 2, 2, 0, 4, 63})
	f.Add(1<<36-1, []byte{1, 1, 1, 1, 0, 9, 200, 7, 31, 255, 40})
	f.Fuzz(func(t *testing.T, now int, script []byte) {
		w, e := wheel.New(now)
		if now < 0 || now > maxClock {
			checkErrno(t, now, e, api.ErrArg)
			return
		}
		m := newModel(now)
		for len(script) >= 3 {
			n := name(int(script[0]>>2)%maxTenants, fmt.Sprint(script[0]>>4))
			to := m.now + int(script[1])<<(script[2]%41) - 1
			switch script[0] % 4 {
			case 0, 1:
				checkErrno(t, n, w.Add(n, to), m.add(n, to))
			case 2:
				checkErrno(t, n, w.Del(n), m.del(n))
			case 3:
				tickBoth(t, w, m, to)
			}
			m.check(t, n, w)
			script = script[3:]
		}
	})
}
