package tests

import (
	"fmt"
	"math"
	"slices"
	"testing"

	"loop.example/g00103/impl"
)

// cuts has the power go amid an input's raw writes; so many of what it did are
// on the disk then.
func (s *story) cuts(why string, e impl.Event, node int, in impl.Input, applied int) {
	s.t.Helper()
	o := serve(s.want.Servers[node-1], in)
	if !o.ok || applied > len(o.done) {
		s.t.Fatalf("%s: Serve is %v, and did %d", why, o.ok, len(o.done))
	}
	s.goes(why, e, 3, func(w *impl.World) {
		w.Up[node-1] = false
		w.Servers[node-1].Disk = diskLeft(w.Servers[node-1].Disk, o.raws, e.Whole, e.Part)
		w.Waits = withoutWaits(w.Waits, func(x impl.Wait) bool { return x.Node == node })
		for _, d := range o.done[:applied] {
			w.Applied = append(w.Applied, appliedOf(node, o.server.Node.Term, d.Index, d.Entry))
		}
	})
}

// placesToCut are all places of raw writes: so many whole ones, and so many
// bytes of the next.
func placesToCut(raws []impl.Raw, each func(whole, part int, last bool)) {
	for whole := range len(raws) + 1 {
		most := mostPart(raws, whole)
		for part := range most + 1 {
			each(whole, part, part == most && most > 0)
		}
	}
}

func mostPart(raws []impl.Raw, whole int) int {
	if whole < len(raws) && raws[whole].Kind <= 2 {
		return len(raws[whole].Text)
	}
	return 0
}

// kindsAndNames tell raw writes in short.
func kindsAndNames(raws []impl.Raw) string {
	text := ""
	for _, r := range raws {
		text += fmt.Sprint(r.Kind, r.Name, " ")
	}
	return text
}

// torn is a life of a node alone whose ticks were cut six times, each time behind
// the entry of its Term: none of the six is applied.
func tornSixTimes(t *testing.T) *story {
	t.Helper()
	s := newStory(t, 1, 1)
	s.soon(1)
	for range 6 {
		s.cuts("cut behind the log", cutEvent(tickEvent(1, 9), 2, 0), 1, tickOf(9), 0)
		s.comesUp("up", 1, 1)
	}
	return s
}

func TestCutsOfATick(t *testing.T) {
	base := tornSixTimes(t)
	o := serve(base.want.Servers[0], tickOf(9))
	if kindsAndNames(o.raws) != "2vote 2log 2g0 2g0 2g0 2g0 2g0 2g0 " || len(o.done) != 6 || o.server.Node.Commit != 7 {
		t.Fatalf("of a tick comes %s", shortServed(o))
	}
	placesToCut(o.raws, func(whole, part int, last bool) {
		applied := max(0, whole-2)
		if whole >= 2 && last {
			applied++
		}
		s := newStoryFrom(base)
		s.cuts(fmt.Sprint("cut behind ", whole, " and ", part), cutEvent(tickEvent(1, 9), whole, part), 1, tickOf(9), applied)
		if stamp := len(s.want.Applied); stamp != applied || len(s.want.Leaders) != 0 {
			t.Errorf("cut behind %d and %d: %s", whole, part, shortWorld(s.want))
		}
		s.comesUp("up", 1, 1)
		if up := s.want.Servers[0]; up.Shelf.Stamp != applied || up.Node.Commit != applied {
			t.Errorf("cut behind %d and %d: up it is %s", whole, part, shortServer(up))
		}
	})
	s := newStoryFrom(base)
	s.ticks("no cut", 1, nil, leads(1, 7, o.server.Node.Log), applies(1, 7, 1, noneOf(1)), applies(1, 7, 2, noneOf(2)), applies(1, 7, 3, noneOf(3)),
		applies(1, 7, 4, noneOf(4)), applies(1, 7, 5, noneOf(5)), applies(1, 7, 6, noneOf(6)))
	s.ticks("the rest of it", 1, nil, applies(1, 7, 7, noneOf(7)))
}

// A number below 0 is taken as 0, one that is too great as the greatest.
func TestCutsOfNumbersThatAreFarOff(t *testing.T) {
	base := tornSixTimes(t)
	size := len(serve(base.want.Servers[0], tickOf(9)).raws[2].Text)
	for _, c := range []struct{ whole, part, asWhole, asPart, applied int }{
		{-1, 0, 0, 0, 0}, {math.MinInt, 0, 0, 0, 0}, {0, -1, 0, 0, 0}, {2, math.MinInt, 2, 0, 0}, {-7, -7, 0, 0, 0},
		{-1, 3, 0, 3, 0}, {math.MinInt, math.MaxInt, 0, 7, 0}, {0, 8, 0, 7, 0}, {2, size, 2, size, 1}, {2, size + 1, 2, size, 1}, {2, math.MaxInt, 2, size, 1},
		{8, 0, 8, 0, 6}, {8, 1, 8, 0, 6}, {9, 0, 8, 0, 6}, {9, 5, 8, 0, 6}, {60, 0, 8, 0, 6}, {61, 20001, 8, 0, 6}, {math.MaxInt, 0, 8, 0, 6}, {math.MaxInt, math.MaxInt, 8, 0, 6}, {math.MaxInt, math.MinInt, 8, 0, 6},
	} {
		why := fmt.Sprint("cut behind ", c.whole, " and ", c.part)
		s := newStoryFrom(base)
		s.cuts(why, cutEvent(tickEvent(1, 9), c.whole, c.part), 1, tickOf(9), c.applied)
		near := ranOf(1, numbers(1), append(slices.Clone(base.events), cutEvent(tickEvent(1, 9), c.asWhole, c.asPart))...)
		if !sameWorld(near.world, s.want) {
			t.Errorf("%s: %s; want %s", why, shortWorld(s.want), shortWorld(near.world))
		}
	}
}

// A cut of a call that is done at once: nobody is told, though it may be applied.
func TestCutsOfACall(t *testing.T) {
	base := newStory(t, 1, 1)
	base.soon(1)
	base.ticks("it leads", 1, nil, leads(1, 1, logOf(0, 0, noneOf(1))), applies(1, 1, 1, noneOf(1)))
	in := planOf(3, plainCommandText(openNew()))
	o := serve(base.want.Servers[0], in)
	if kindsAndNames(o.raws) != "2log 2g0 " || len(o.done) != 1 {
		t.Fatalf("of a call comes %s", shortServed(o))
	}
	placesToCut(o.raws, func(whole, part int, last bool) {
		applied := 0
		if whole == 2 || whole == 1 && last {
			applied = 1
		}
		why := fmt.Sprint("cut behind ", whole, " and ", part)
		s := newStoryFrom(base)
		s.cuts(why, cutEvent(callEvent(1, openNew()), whole, part), 1, in, applied)
		if len(s.want.Replies)+len(s.want.Waits) > 0 || len(s.want.Applied) != 1+applied {
			t.Errorf("%s: %s", why, shortWorld(s.want))
		}
		s.stays("it is down", callEvent(1, openNew()), 1)
		s.comesUp("up", 1, 1)
		kept := 1
		if whole > 0 || last {
			kept = 2
		}
		if last, _ := plainLast(s.want.Servers[0].Node.Log); last != kept {
			t.Errorf("%s: the log ends at %d", why, last)
		}
	})
}

// waitingLeader leads 2 nodes: 2 has an entry less than it, and a call waits.
func waitingLeader(t *testing.T) *story {
	t.Helper()
	s := newStory(t, 3, 1, 2)
	s.soon(1)
	s.ticks("it stands", 1, told(asks(1, 1, 2, 1, 0, 0, 0)))
	s.delivers("2 votes", 0, told(tells(2, 2, 1, 1, true, 0)))
	s.delivers("it leads", 0, told(asks(3, 1, 2, 1, 0, 0, 0, noneOf(1))), leads(1, 1, logOf(0, 0, noneOf(1))))
	s.delivers("2 has the entry", 0, told(tells(4, 2, 1, 1, true, 1)))
	s.delivers("it is committed", 0, nil, applies(1, 1, 1, noneOf(1)))
	s.calls("open", 1, openNew(), told(asks(3, 1, 2, 1, 1, 1, 1, commandEntry(1, openNew()))), waiting(waitOf(1, 2, 1, s.place())))
	return s
}

func TestCutsOfWhatComes(t *testing.T) {
	base := waitingLeader(t)
	base.goes("a copy", copyEvent(0), 0, func(w *impl.World) { w.Net = append(w.Net, w.Net[0]) })
	m := base.want.Net[0]
	o := serve(base.want.Servers[1], comingOf(m))
	if kindsAndNames(o.raws) != "2log 2g0 " || len(o.told) != 1 {
		t.Fatalf("of a message comes %s", shortServed(o))
	}
	placesToCut(o.raws, func(whole, part int, last bool) {
		applied := 0
		if whole == 2 || whole == 1 && last {
			applied = 1
		}
		s := newStoryFrom(base)
		s.takeAway(0)
		s.cuts(fmt.Sprint("cut behind ", whole, " and ", part), cutEvent(deliverEvent(2), whole, part), 2, comingOf(m), applied)
		if len(s.want.Net) != 1 || len(s.want.Waits) != 1 {
			t.Errorf("cut behind %d and %d: %s", whole, part, shortWorld(s.want))
		}
		s.comesUp("up", 2, 9)
		then := serve(s.want.Servers[1], comingOf(m))
		var changes []func(w *impl.World)
		for _, d := range then.done {
			changes = append(changes, applies(2, 1, d.Index, d.Entry))
		}
		if len(then.done) != 1-applied {
			t.Errorf("cut behind %d and %d: of the copy comes %s", whole, part, shortServed(then))
		}
		s.delivers("the copy", 0, told(tells(4, 2, 1, 1, true, 2)), changes...)
	})
}

// The leader's own waits go by a cut of whatever input, and no others' do.
func TestCutsOfALeaderThatIsWaitedFor(t *testing.T) {
	base := waitingLeader(t)
	for why, e := range map[string]impl.Event{
		"a tick":  tickEvent(1, 5),
		"a call":  callEvent(1, openNew()),
		"a conf":  confEvent(1, 1, 2, 3),
		"a merge": mergeEvent(1),
	} {
		in := map[int]impl.Input{1: tickOf(5), 5: planOf(3, plainCommandText(openNew())), 6: planOf(2, "\x01\x02\x03"), 7: mergeInput()}[e.Kind]
		o := serve(base.want.Servers[0], in)
		placesToCut(o.raws, func(whole, part int, _ bool) {
			s := newStoryFrom(base)
			s.cuts(fmt.Sprint(why, " cut behind ", whole, " and ", part), cutEvent(e, whole, part), 1, in, 0)
			if len(s.want.Waits)+len(s.want.Replies) > 0 || len(s.want.Net) != 1 || len(s.want.Applied) != 1 {
				t.Errorf("%s, cut behind %d and %d: %s", why, whole, part, shortWorld(s.want))
			}
			s.delivers("2 has the call", 0, told(tells(4, 2, 1, 1, true, 2)), applies(2, 1, 1, noneOf(1)))
			s.stays("1 is down", deliverEventOf(s), 1)
			s.comesUp("up", 1, 5)
		})
	}
	s := waitingLeader(t)
	s.cuts("another node's", cutEvent(tickEvent(2, 5), 0, 0), 2, tickOf(5), 0)
	s.cuts("a third one's", cutEvent(mergeEvent(3), 0, 0), 3, mergeInput(), 0)
	if len(s.want.Waits) != 1 {
		t.Errorf("of a cut elsewhere comes %s", shortWorld(s.want))
	}
}

// deliverEventOf delivers the first message, which is taken away.
func deliverEventOf(s *story) impl.Event {
	s.takeAway(0)
	return deliverEvent(0)
}

// A merge that is cut is so, or as it was; also the second one, which takes the
// place of a merged segment.
func TestCutsOfAMerge(t *testing.T) {
	base := newStory(t, 1, 1)
	base.soon(1)
	base.ticks("it leads", 1, nil, leads(1, 1, logOf(0, 0, noneOf(1))), applies(1, 1, 1, noneOf(1)))
	for round := range 2 {
		base.calls("open", 1, openNew(), nil, applies(1, 1, 2+round, commandEntry(1, openNew())), replies(base.place(), 2+round, openNew(), fmt.Sprint("open ", 1+round)))
		o := serve(base.want.Servers[0], mergeInput())
		if kindsAndNames(o.raws) != fmt.Sprintf("1g%d 1m+ 3m+ 4g%d 1log+ 3log+ ", round+1, round) {
			t.Fatalf("of a merge comes %s", shortServed(o))
		}
		state, _ := plainShelfMap(base.want.Servers[0].Disk, base.want.Servers[0].Shelf)
		placesToCut(o.raws, func(whole, part int, _ bool) {
			s := newStoryFrom(base)
			s.cuts(fmt.Sprint("cut behind ", whole, " and ", part), cutEvent(mergeEvent(1), whole, part), 1, mergeInput(), 0)
			s.comesUp("up", 1, 1)
			up := s.want.Servers[0]
			wantShelfMap(t, "up again", up.Disk, up.Shelf, state)
			wantBase := []int{0, 2, 3}[round]
			if whole > 2 {
				wantBase = 2 + round
			}
			if up.Shelf.Man.Base != wantBase || up.Node.Log.Start != wantBase || up.Shelf.Stamp != 2+round {
				t.Errorf("cut behind %d and %d: up it is %s", whole, part, shortServer(up))
			}
		})
		base.serves("the merge", mergeEvent(1), 1, mergeInput(), nil)
	}
}

// A vote that was not written was not told either: whoever gets it then, no Term
// has two leaders.
func TestCutsOfAVote(t *testing.T) {
	base := newStory(t, 3, 1, 2, 3)
	base.soon(1)
	base.soon(3)
	base.ticks("1 stands", 1, told(asks(1, 1, 2, 1, 0, 0, 0), asks(1, 1, 3, 1, 0, 0, 0)))
	base.ticks("3 stands", 3, told(asks(1, 3, 1, 1, 0, 0, 0), asks(1, 3, 2, 1, 0, 0, 0)))
	base.goes("a copy", copyEvent(0), 0, func(w *impl.World) { w.Net = append(w.Net, w.Net[0]) })
	m := base.want.Net[0]
	o := serve(base.want.Servers[1], comingOf(m))
	if kindsAndNames(o.raws) != "2vote " {
		t.Fatalf("of a message comes %s", shortServed(o))
	}
	placesToCut(o.raws, func(whole, part int, last bool) {
		written := whole == 1 || last
		first, second := 3, 1
		if written {
			first, second = 1, 3
		}
		s := newStoryFrom(base)
		s.takeAway(0)
		s.cuts(fmt.Sprint("cut behind ", whole, " and ", part), cutEvent(deliverEvent(0), whole, part), 2, comingOf(m), 0)
		s.comesUp("up", 2, 9)
		if n := s.want.Servers[1].Node; written && (n.Term != 1 || n.Vote != 1) || !written && (n.Term != 0 || n.Vote != 0) {
			t.Errorf("cut behind %d and %d: up it is %s", whole, part, shortNode(n))
		}
		s.delivers("3 asks 2", 2, told(tells(2, 2, 3, 1, !written, 0)))
		s.delivers("1 asks 2 again", 2, told(tells(2, 2, 1, 1, written, 0)))
		others := without(numbers(1, 2, 3), first)
		begins := told(asks(3, first, others[0], 1, 0, 0, 0, noneOf(1)), asks(3, first, others[1], 1, 0, 0, 0, noneOf(1)))
		places := map[int]int{3: 2, 1: 3}
		s.delivers("the one leads", places[first], begins, leads(first, 1, logOf(0, 0, noneOf(1))))
		s.delivers("the other does not", 2, nil)
		if s.want.Servers[second-1].Node.Role == impl.RoleLead || len(s.want.Leaders) != 1 {
			t.Errorf("cut behind %d and %d: %s", whole, part, shortWorld(s.want))
		}
	})
}
