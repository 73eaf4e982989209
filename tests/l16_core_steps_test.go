package tests

import (
	"fmt"
	"slices"
	"testing"

	"loop.example/g00103/impl"
)

// asks has the numbers that a node's own messages have.
func asks(kind, from, to, term, index, logTerm, commit int, list ...impl.Entry) impl.Message {
	return impl.Message{Kind: kind, From: from, To: to, Term: term, Index: index, LogTerm: logTerm, Commit: commit, Entries: list}
}

// ships is an AskInstall of the core, which has no Data.
func ships(from, to, term, index, logTerm, commit int, conf ...int) impl.Message {
	return impl.Message{Kind: 5, From: from, To: to, Term: term, Index: index, LogTerm: logTerm, Commit: commit, Conf: conf}
}

func tells(kind, from, to, term int, ok bool, index int) impl.Message {
	return impl.Message{Kind: kind, From: from, To: to, Term: term, Ok: ok, Index: index}
}

// stood is a node that stands in the next Term.
func stood(n impl.Node, limit int) impl.Node {
	return nodeWith(n, func(n *impl.Node) {
		n.Term, n.Vote, n.Role, n.Lead, n.Clock, n.Limit, n.Votes = n.Term+1, n.Id, 1, 0, 0, limit, numbers(n.Id)
	})
}

// stoppedLeading is a node that follows nobody in its own Term.
func stoppedLeading(n impl.Node) impl.Node {
	return nodeWith(n, func(n *impl.Node) { n.Role, n.Lead, n.Votes, n.Peers = 0, 0, nil, nil })
}

// inTerm is a node that has come to a later Term.
func inTerm(n impl.Node, term int) impl.Node {
	return nodeWith(stoppedLeading(n), func(n *impl.Node) { n.Term, n.Vote = term, 0 })
}

// ledBy is a node that has heard from who leads.
func ledBy(n impl.Node, lead int) impl.Node {
	return nodeWith(stoppedLeading(n), func(n *impl.Node) { n.Lead, n.Clock = lead, 0 })
}

func clockOf(n impl.Node, clock, limit int) impl.Node {
	return nodeWith(n, func(n *impl.Node) { n.Clock, n.Limit = clock, limit })
}

func TestTicksAheadOfLimit(t *testing.T) {
	for role := range 2 {
		n := ofEachRole()[role]
		for limit := 2; limit <= 20; limit++ {
			for clock := range limit - 1 {
				for _, next := range numbers(1, 4, 20) {
					was := clockOf(n, clock, limit)
					wantTick(t, "ahead of Limit", was, next, clockOf(n, clock+1, limit))
				}
			}
		}
	}
}

func TestTicksAtLimitAndBehindIt(t *testing.T) {
	for role := range 2 {
		n := ofEachRole()[role]
		for limit := 1; limit <= 20; limit++ {
			for clock := limit - 1; clock <= 20; clock++ {
				for _, next := range numbers(1, 4, 20) {
					was := clockOf(n, clock, limit)
					wantTick(t, "stands", was, next, stood(n, next),
						asks(1, 1, 2, 6, 6, 4, 0), asks(1, 1, 3, 6, 6, 4, 0))
				}
			}
		}
	}
}

func TestLimitsOfTicks(t *testing.T) {
	for role, n := range ofEachRole() {
		for _, clock := range numbers(0, 5, 6, 20) {
			for _, limit := range append(farNumbers(), -2, -1, 0, 21, 22) {
				wantNoTick(t, fmt.Sprint("limit ", limit, ", Role ", role), clockOf(n, clock, 7), limit)
			}
			for _, limit := range numbers(1, 2, 19, 20) {
				if o := ticked(clockOf(n, clock, 7), limit); !o.ok {
					t.Errorf("limit %d is refused", limit)
				}
			}
		}
	}
}

func TestWhoStands(t *testing.T) {
	ids := map[int]impl.Node{}
	for id := 1; id <= 4; id++ {
		ids[id] = nodeWith(clockOf(followNode(), 6, 7), func(n *impl.Node) { n.Id = id })
	}
	wantTick(t, "the first", ids[1], 9, stood(ids[1], 9), asks(1, 1, 2, 6, 6, 4, 0), asks(1, 1, 3, 6, 6, 4, 0))
	wantTick(t, "the second", ids[2], 9, stood(ids[2], 9), asks(1, 2, 1, 6, 6, 4, 0), asks(1, 2, 3, 6, 6, 4, 0))
	// It is in the EntryConf alone, which is not committed.
	wantTick(t, "the third", ids[3], 9, stood(ids[3], 9), asks(1, 3, 1, 6, 6, 4, 0), asks(1, 3, 2, 6, 6, 4, 0))
	wantTick(t, "one that is not in ConfOf", ids[4], 9, clockOf(ids[4], 0, 9))
	once := nodeWith(ids[4], func(n *impl.Node) { n.Conf = numbers(1, 2, 4) })
	wantTick(t, "one that was in the conf", once, 9, clockOf(once, 0, 9))
	votes := nodeWith(ids[4], func(n *impl.Node) { n.Role, n.Vote, n.Votes = 1, 4, numbers(1, 2, 4) })
	wantTick(t, "one that stood already, and is not in ConfOf", votes, 9, clockOf(votes, 0, 9))
}

func TestWhoIsAskedForVotes(t *testing.T) {
	for _, conf := range rightConfs() {
		for id := 1; id <= 4; id++ {
			for _, l := range []impl.Log{logOf(0, 0), logOf(7, 3), logOf(7, 3, noneOf(3), noneOf(4))} {
				n := impl.Node{Id: id, Term: 5, Conf: conf, Log: l, Commit: l.Start, Clock: 2, Limit: 3}
				others := without(conf, id)
				if len(others) == len(conf) {
					wantTick(t, "not in it", n, 6, clockOf(n, 0, 6))
					continue
				}
				if len(others) == 0 {
					continue
				}
				last, term := plainLast(l)
				var told []impl.Message
				for _, to := range others {
					told = append(told, asks(1, id, to, 6, last, term, 0))
				}
				wantTick(t, "in it", n, 6, stood(n, 6), told...)
			}
		}
	}
}

func TestTicksAtMaxTerm(t *testing.T) {
	for role := range 2 {
		for _, conf := range [][]int{{1, 2, 3}, {1}} {
			n := nodeWith(ofEachRole()[role], func(n *impl.Node) { n.Conf, n.Log, n.Term = conf, logOf(4, 1), 100000 })
			for clock := 6; clock <= 20; clock++ {
				wantTick(t, "MaxTerm", clockOf(n, clock, 7), 20, clockOf(n, 0, 20))
			}
			wantTick(t, "MaxTerm, ahead of Limit", clockOf(n, 5, 7), 20, clockOf(n, 6, 7))
		}
		n := nodeWith(ofEachRole()[role], func(n *impl.Node) { n.Term = 99999 })
		wantTick(t, "MaxTerm - 1", clockOf(n, 6, 7), 2, stood(n, 2), asks(1, 1, 2, 100000, 6, 4, 0), asks(1, 1, 3, 100000, 6, 4, 0))
	}
}

// led is a node that leads alone in the next Term, with its entry committed.
func led(n impl.Node, limit int, put bool) impl.Node {
	return nodeWith(stood(n, limit), func(n *impl.Node) {
		n.Role, n.Lead, n.Votes = 2, n.Id, nil
		if put {
			n.Log.Entries = append(n.Log.Entries, noneOf(n.Term))
			n.Commit = n.Log.Start + len(n.Log.Entries)
		}
	})
}

func TestOneThatIsAloneLeadsAtOnce(t *testing.T) {
	base := impl.Node{Id: 3, Term: 4, Lead: 2, Conf: numbers(3), Commit: 0, Clock: 0, Limit: 1}
	for why, c := range map[string]struct {
		l      impl.Log
		commit int
		put    bool
	}{
		"nothing in its log":          {logOf(0, 0), 0, true},
		"a beginning":                 {logOf(7, 3), 7, true},
		"entries that it commits too": {logOf(7, 3, noneOf(3), commandOf(4, "x")), 7, true},
		"its conf is not committed":   {logOf(7, 3, confOf(3, "\x02\x03"), confOf(4, "\x03")), 8, true},
		"MaxLog - 1 entries":          {logOfMany(7, 3, 119), 9, true},
		"MaxLog entries":              {logOfMany(7, 3, 120), 9, false},
		"MaxIndex - 1":                {logOfMany(99990, 3, 9), 99991, true},
		"MaxIndex":                    {logOfMany(99990, 3, 10), 99991, false},
		"MaxIndex, no entries":        {logOf(100000, 3), 100000, false},
		"MaxIndex - 1, no entries":    {logOf(99999, 3), 99999, true},
	} {
		for role := range 2 {
			n := nodeWith(base, func(n *impl.Node) { n.Log, n.Commit, n.Role = c.l, c.commit, role })
			wantTick(t, why, n, 5, led(n, 5, c.put))
			again := led(n, 5, c.put)
			wantTick(t, why+", and leads", again, 5, again)
		}
	}
	// Conf is another one, as long as the last EntryConf is this node alone.
	was := nodeWith(base, func(n *impl.Node) { n.Conf, n.Log = numbers(1, 3), logOf(0, 0, confOf(2, "\x03")) })
	wantTick(t, "alone by an entry", was, 5, led(was, 5, true))
	with := nodeWith(base, func(n *impl.Node) { n.Log = logOf(0, 0, confOf(2, "\x03\x04")) })
	wantTick(t, "not alone by an entry", with, 5, stood(with, 5), asks(1, 3, 4, 5, 1, 2, 0))
}

func TestTicksOfOneThatLeads(t *testing.T) {
	own := leadNode().Log.Entries
	n := leadNode()
	for clock := 0; clock <= 20; clock++ {
		for _, limit := range numbers(1, 7, 20) {
			was := clockOf(n, clock, 7)
			wantTick(t, "ordinary", was, limit, was,
				asks(3, 1, 2, 5, 8, 5, 4), asks(3, 1, 3, 5, 4, 1, 4, own[2:6]...))
		}
	}
	terms := map[int]int{2: 1, 3: 1, 4: 1, 5: 3, 6: 4, 7: 5, 8: 5}
	for next := 1; next <= 9; next++ {
		for _, sent := range numbers(0, 60, 20000) {
			was := nodeWith(n, func(n *impl.Node) { n.Peers[0] = impl.Peer{Id: 2, Next: next, Sent: sent} })
			want := ships(1, 2, 5, 2, 1, sent, 1, 2)
			if next > 2 {
				want = asks(3, 1, 2, 5, next-1, terms[next-1], 4, own[next-3:min(next+1, 6)]...)
			}
			wantTick(t, fmt.Sprint("Next ", next), was, 20, was, want, asks(3, 1, 3, 5, 4, 1, 4, own[2:6]...))
		}
	}
	out := nodeWith(n, func(n *impl.Node) {
		n.Id, n.Conf, n.Peers = 4, numbers(1, 4), []impl.Peer{{Id: 1, Next: 1, Sent: 7}, {Id: 2, Next: 3}, {Id: 3, Next: 9, Match: 8}}
	})
	wantTick(t, "one that is not in ConfOf", out, 20, out,
		ships(4, 1, 5, 2, 1, 7, 1, 4), asks(3, 4, 2, 5, 2, 1, 4, own[:4]...), asks(3, 4, 3, 5, 8, 5, 4))
	wantTick(t, "alone", aloneNode(), 20, aloneNode())
	top := nodeWith(n, func(n *impl.Node) { n.Term, n.Commit = 100000, 8 })
	wantTick(t, "MaxTerm", top, 20, top, asks(3, 1, 2, 100000, 8, 5, 8), asks(3, 1, 3, 100000, 4, 1, 8, own[2:6]...))
	empty := impl.Node{Id: 1, Term: 3, Role: 2, Conf: numbers(1, 2, 3), Log: logOf(7, 3), Commit: 7, Limit: 1,
		Peers: []impl.Peer{{Id: 2, Next: 8}, {Id: 3, Next: 7, Match: 6, Sent: 5}}}
	wantTick(t, "no entries", empty, 1, empty, asks(3, 1, 2, 3, 7, 3, 7), ships(1, 3, 3, 7, 3, 5, 1, 2, 3))
}

// A message of a Term above makes each Role follow, whatever its Kind is.
func TestMessagesOfATermAbove(t *testing.T) {
	for role, n := range ofEachRole() {
		for _, term := range numbers(6, 9, 100000) {
			for _, ok := range []bool{false, true} {
				why := fmt.Sprint("a Term above, Role ", role)
				for _, kind := range numbers(2, 4, 6) {
					wantReceive(t, why, n, tells(kind, 2, 1, term, ok, 6), inTerm(n, term))
				}
			}
			less := asks(1, 3, 1, term, 6, 3, 0)
			wantReceive(t, "a log that is less", n, less, inTerm(n, term), tells(2, 1, 3, term, false, 0))
			more := asks(1, 3, 1, term, 9, 9, 0)
			voted := nodeWith(inTerm(n, term), func(n *impl.Node) { n.Vote, n.Clock = 3, 0 })
			wantReceive(t, "a log that is more", n, more, voted, tells(2, 1, 3, term, true, 0))
			last, lastTerm := plainLast(n.Log)
			wantReceive(t, "AskAppend", n, asks(3, 3, 1, term, last, lastTerm, 0),
				ledBy(inTerm(n, term), 3), tells(4, 1, 3, term, true, last))
			wantReceive(t, "AskInstall", n, ships(3, 1, term, 50, 9, 0, 1, 3), ledBy(inTerm(n, term), 3))
		}
	}
}

func TestMessagesOfATermBelow(t *testing.T) {
	for _, n := range ofEachRole() {
		for term := range 5 {
			for _, ok := range []bool{false, true} {
				for _, kind := range numbers(2, 4, 6) {
					wantReceive(t, "a reply", n, tells(kind, 2, 1, term, ok, 8), n)
				}
			}
			// Each tells its Term, and nothing else of it changes.
			wantReceive(t, "AskVote", n, asks(1, 2, 1, term, 100000, 100000, 0), n, tells(2, 1, 2, 5, false, 0))
			free := nodeWith(n, func(n *impl.Node) { n.Vote = 0 })
			wantReceive(t, "AskVote, no Vote yet", free, asks(1, 2, 1, term, 100000, 100000, 0), free, tells(2, 1, 2, 5, false, 0))
			last, lastTerm := plainLast(n.Log)
			wantReceive(t, "AskAppend", n, asks(3, 2, 1, term, last, lastTerm, 100000), n, tells(4, 1, 2, 5, false, 0))
			wantReceive(t, "AskAppend, far off", n, asks(3, 2, 1, term, 100000, lastTerm, 3), n, tells(4, 1, 2, 5, false, 0))
			wantReceive(t, "AskInstall", n, ships(2, 1, term, 50, 1, 3, 1, 2), n)
		}
	}
}

func TestVotesAskedFor(t *testing.T) {
	granted := 0
	for role, base := range ofEachRole() {
		last, lastTerm := plainLast(base.Log)
		for vote := 0; vote <= 4; vote++ {
			n := nodeWith(base, func(n *impl.Node) { n.Vote = vote })
			for from := 2; from <= 4; from++ {
				for _, term := range numbers(0, lastTerm-1, lastTerm, lastTerm+1, 100000) {
					for _, index := range numbers(0, last-1, last, last+1, 100000) {
						ok := (vote == 0 || vote == from) && (term > lastTerm || term == lastTerm && index >= last)
						want := n
						if ok {
							granted++
							want = nodeWith(n, func(n *impl.Node) { n.Vote, n.Clock = from, 0 })
						}
						wantReceive(t, fmt.Sprint("Role ", role), n, asks(1, from, 1, 5, index, term, 0), want, tells(2, 1, from, 5, ok, 0))
					}
				}
			}
		}
	}
	if granted != 3*6*(5+5+3) {
		t.Errorf("%d votes are granted", granted)
	}
}

// What AskVote has beside Index and LogTerm is not looked at.
func TestVotesAskedForByAnybody(t *testing.T) {
	n := followNode()
	odd := asks(1, 4, 1, 5, 6, 4, 77)
	odd.Ok = true
	wantReceive(t, "one that is not in ConfOf", n, odd, nodeWith(n, func(n *impl.Node) { n.Vote, n.Clock = 4, 0 }), tells(2, 1, 4, 5, true, 0))
	again := nodeWith(n, func(n *impl.Node) { n.Vote, n.Clock = 4, 0 })
	wantReceive(t, "asked again", again, odd, again, tells(2, 1, 4, 5, true, 0))
	wantReceive(t, "another one asks", again, asks(1, 2, 1, 5, 100000, 5, 0), again, tells(2, 1, 2, 5, false, 0))
	bare := impl.Node{Id: 2, Conf: numbers(2, 3), Clock: 9, Limit: 20}
	wantReceive(t, "nothing against nothing", bare, asks(1, 3, 2, 0, 0, 0, 0), nodeWith(bare, func(n *impl.Node) { n.Vote, n.Clock = 3, 0 }), tells(2, 2, 3, 0, true, 0))
}

// nowLeads is standNode behind most of its votes: the entry of its Term is put
// behind the log, and is sent with nothing ahead of it.
func nowLeads() (impl.Node, []impl.Message) {
	n := nodeWith(standNode(), func(n *impl.Node) {
		n.Role, n.Lead, n.Votes = 2, 1, nil
		n.Log.Entries = append(n.Log.Entries, noneOf(5))
		n.Peers = []impl.Peer{{Id: 2, Next: 7}, {Id: 3, Next: 7}}
	})
	return n, []impl.Message{asks(3, 1, 2, 5, 6, 4, 4, noneOf(5)), asks(3, 1, 3, 5, 6, 4, 4, noneOf(5))}
}

func TestVotesTold(t *testing.T) {
	n := standNode()
	leads, told := nowLeads()
	votes := func(list ...int) impl.Node { return nodeWith(n, func(n *impl.Node) { n.Votes = list }) }
	wantReceive(t, "the one that makes most", n, tells(2, 2, 1, 5, true, 0), leads, told...)
	wantReceive(t, "the other one", n, tells(2, 3, 1, 5, true, 99), leads, told...)
	wantReceive(t, "not Ok", n, tells(2, 2, 1, 5, false, 0), n)
	wantReceive(t, "one that is not in ConfOf", n, tells(2, 4, 1, 5, true, 0), votes(1, 4))
	wantReceive(t, "one that is not in ConfOf, again", votes(1, 4), tells(2, 4, 1, 5, true, 0), votes(1, 4))
	wantReceive(t, "most behind one that does not count", votes(1, 4), tells(2, 3, 1, 5, true, 0), leads, told...)
	wantReceive(t, "not Ok beside votes", votes(1, 4), tells(2, 3, 1, 5, false, 0), votes(1, 4))
	// Votes ascend, whoever comes first.
	wantReceive(t, "no votes yet", votes(), tells(2, 3, 1, 5, true, 0), votes(3))
	wantReceive(t, "a lesser one", votes(4), tells(2, 3, 1, 5, true, 0), votes(3, 4))
	wantReceive(t, "a greater one", votes(3), tells(2, 4, 1, 5, true, 0), votes(3, 4))
	wantReceive(t, "one that has voted already", votes(3), tells(2, 3, 1, 5, true, 0), votes(3))
	wantReceive(t, "most, without the node itself", votes(3), tells(2, 2, 1, 5, true, 0), leads, told...)
	wantReceive(t, "most were there already", votes(1, 2), tells(2, 2, 1, 5, true, 0), leads, told...)
	for _, role := range numbers(0, 2) {
		other := ofEachRole()[role]
		wantReceive(t, "it does not stand", other, tells(2, 2, 1, 5, true, 0), other)
	}
}

// In a conf of four three votes are most.
func TestVotesOfFour(t *testing.T) {
	n := impl.Node{Id: 2, Term: 3, Vote: 2, Role: 1, Conf: numbers(1, 2, 3, 4), Limit: 5, Clock: 4, Votes: numbers(2)}
	two := nodeWith(n, func(n *impl.Node) { n.Votes = numbers(2, 4) })
	wantReceive(t, "two", n, tells(2, 4, 2, 3, true, 0), two)
	three := nodeWith(n, func(n *impl.Node) {
		n.Role, n.Lead, n.Votes, n.Log = 2, 2, nil, logOf(0, 0, noneOf(3))
		n.Peers = []impl.Peer{{Id: 1, Next: 1}, {Id: 3, Next: 1}, {Id: 4, Next: 1}}
	})
	first := noneOf(3)
	wantReceive(t, "three", two, tells(2, 1, 2, 3, true, 0), three, asks(3, 2, 1, 3, 0, 0, 0, first), asks(3, 2, 3, 3, 0, 0, 0, first), asks(3, 2, 4, 3, 0, 0, 0, first))
}

func TestLeadingWithoutRoom(t *testing.T) {
	for why, c := range map[string]struct {
		l   impl.Log
		put bool
	}{
		"MaxLog - 1":   {logOfMany(3, 2, 119), true},
		"MaxLog":       {logOfMany(3, 2, 120), false},
		"MaxIndex - 1": {logOfMany(99990, 2, 9), true},
		"MaxIndex":     {logOfMany(99990, 2, 10), false},
	} {
		n := impl.Node{Id: 1, Term: 4, Vote: 1, Role: 1, Conf: numbers(1, 2), Log: c.l, Commit: c.l.Start, Limit: 9, Votes: numbers(1)}
		last, _ := plainLast(c.l)
		var sent []impl.Entry
		want := nodeWith(n, func(n *impl.Node) {
			n.Role, n.Lead, n.Votes, n.Peers = 2, 1, nil, []impl.Peer{{Id: 2, Next: last + 1}}
			if c.put {
				n.Log.Entries = append(n.Log.Entries, noneOf(4))
				sent = entries(noneOf(4))
			}
		})
		wantReceive(t, why, n, tells(2, 2, 1, 4, true, 0), want, asks(3, 1, 2, 4, last, 2, c.l.Start, sent...))
	}
}

// A node that stands and is not in ConfOf may be told most of the votes: it
// leads, and stops at once where its conf is committed.
func TestLeadingOfOneThatIsNotInConfOf(t *testing.T) {
	n := nodeWith(standNode(), func(n *impl.Node) { n.Id, n.Vote, n.Votes = 4, 4, numbers(1, 4) })
	open := nodeWith(n, func(n *impl.Node) {
		n.Role, n.Lead, n.Votes = 2, 4, nil
		n.Log.Entries = append(n.Log.Entries, noneOf(5))
		n.Peers = []impl.Peer{{Id: 1, Next: 7}, {Id: 2, Next: 7}, {Id: 3, Next: 7}}
	})
	wantReceive(t, "its conf is behind Commit", n, tells(2, 2, 4, 5, true, 0), open,
		asks(3, 4, 1, 5, 6, 4, 4, noneOf(5)), asks(3, 4, 2, 5, 6, 4, 4, noneOf(5)), asks(3, 4, 3, 5, 6, 4, 4, noneOf(5)))
	for _, commit := range numbers(5, 6) {
		was := nodeWith(n, func(n *impl.Node) { n.Commit = commit })
		stopped := stoppedLeading(nodeWith(open, func(n *impl.Node) { n.Commit = commit }))
		wantReceive(t, "its conf is committed", was, tells(2, 2, 4, 5, true, 0), stopped)
	}
	bare := impl.Node{Id: 4, Term: 1, Role: 1, Conf: numbers(1), Limit: 3}
	stopped := nodeWith(bare, func(n *impl.Node) { n.Role, n.Log = 0, logOf(0, 0, noneOf(1)) })
	wantReceive(t, "there is no EntryConf", bare, tells(2, 1, 4, 1, true, 0), stopped)
}

type appendCase struct {
	why            string
	index, logTerm int
	list           []impl.Entry
	commit         int
	ok             bool
	told           int
	now            []impl.Entry
	committed      int
}

// appendCases are AskAppends to a node that has coreLog, and Commit 4.
func appendCases() []appendCase {
	a, b, c, d := noneOf(1), commandOf(1, "x"), confOf(3, "\x01\x02\x03"), commandOf(4, "y")
	all := entries(a, b, c, d)
	z := commandOf(5, "z")
	return []appendCase{
		{"at the last, nothing", 6, 4, nil, 0, true, 6, all, 4},
		{"at the last, Commit below", 6, 4, nil, 3, true, 6, all, 4},
		{"at the last, Commit the same", 6, 4, nil, 4, true, 6, all, 4},
		{"at the last, Commit above", 6, 4, nil, 5, true, 6, all, 5},
		{"at the last, Commit the last", 6, 4, nil, 6, true, 6, all, 6},
		{"at the last, Commit behind the last", 6, 4, nil, 7, true, 6, all, 6},
		{"at the last, Commit far off", 6, 4, nil, 100000, true, 6, all, 6},
		{"at the last, one more", 6, 4, entries(z), 0, true, 7, entries(a, b, c, d, z), 4},
		{"at the last, one more, Commit ahead of it", 6, 4, entries(z), 6, true, 7, entries(a, b, c, d, z), 6},
		{"at the last, one more, which is committed", 6, 4, entries(z), 7, true, 7, entries(a, b, c, d, z), 7},
		{"at the last, four more", 6, 4, entries(d, z, z, z), 9, true, 10, entries(a, b, c, d, d, z, z, z), 9},
		{"within, nothing", 5, 3, nil, 100, true, 5, all, 5},
		{"within, nothing, at Commit", 4, 1, nil, 100, true, 4, all, 4},
		{"within, nothing, ahead of Commit", 3, 1, nil, 100, true, 3, all, 4},
		{"within, one that is there", 4, 1, entries(c), 6, true, 5, all, 5},
		{"within, one that is there, Commit below it", 4, 1, entries(c), 4, true, 5, all, 4},
		{"within, all that are there", 4, 1, entries(c, d), 6, true, 6, all, 6},
		{"within, ahead of Commit, all that are there", 2, 1, all, 3, true, 6, all, 4},
		{"within, ahead of Commit, some that are there", 2, 1, entries(a, b), 9, true, 4, all, 4},
		{"within, those that are there, and more", 4, 1, entries(c, d, z), 6, true, 7, entries(a, b, c, d, z), 6},
		{"within, the first one is another", 4, 1, entries(noneOf(4)), 5, true, 5, entries(a, b, noneOf(4)), 5},
		{"within, the first one is another, of a lesser term", 4, 1, entries(noneOf(2)), 4, true, 5, entries(a, b, noneOf(2)), 4},
		{"within, the first one is another, and more", 4, 1, entries(noneOf(5), z), 4, true, 6, entries(a, b, noneOf(5), z), 4},
		{"within, the second one is another", 4, 1, entries(c, noneOf(5)), 4, true, 6, entries(a, b, c, noneOf(5)), 4},
		{"within, the second one is another, and more", 4, 1, entries(c, noneOf(5), z, z), 7, true, 8, entries(a, b, c, noneOf(5), z, z), 7},
		{"within, the last one is another", 5, 3, entries(z), 9, true, 6, entries(a, b, c, z), 6},
		{"ahead of Commit, the last one is another", 3, 1, entries(b, c, noneOf(5)), 0, true, 6, entries(a, b, c, noneOf(5)), 4},
		// Entries are told apart by their terms alone.
		{"the same term, other Data", 5, 3, entries(commandOf(4, "other")), 6, true, 6, all, 6},
		{"the same term, another Kind", 4, 1, entries(noneOf(3), noneOf(4), z), 4, true, 7, entries(a, b, c, d, z), 4},
		{"the same term, other Data up to Commit", 2, 1, entries(noneOf(1), noneOf(1)), 4, true, 4, all, 4},
		// An index up to Commit stays.
		{"the index of Commit would be gone", 3, 1, entries(noneOf(2)), 100, false, 6, all, 4},
		{"the index ahead of Commit would be gone", 2, 1, entries(noneOf(2), noneOf(2)), 100, false, 6, all, 4},
		{"the index of Commit would be gone, behind one that is there", 2, 1, entries(a, noneOf(5)), 100, false, 6, all, 4},
		{"all would be gone", 2, 1, entries(z, z, z, z), 100, false, 6, all, 4},
		// LogTerm that is not that of Index.
		{"LogTerm below, at the last", 6, 3, nil, 100, false, 5, all, 4},
		{"LogTerm above, at the last", 6, 5, entries(z), 100, false, 5, all, 4},
		{"LogTerm below, within", 5, 2, entries(c), 100, false, 4, all, 4},
		{"LogTerm above, within", 5, 4, entries(d), 100, false, 4, all, 4},
		{"LogTerm above, at Commit", 4, 3, entries(c), 100, false, 3, all, 4},
		{"LogTerm above, ahead of Commit", 3, 2, nil, 100, false, 2, all, 4},
		{"LogTerm above, at Start", 2, 2, nil, 100, false, 1, all, 4},
		{"LogTerm 0, at Start", 2, 0, entries(a), 100, false, 1, all, 4},
		{"behind the last", 7, 4, nil, 100, false, 6, all, 4},
		{"behind the last, entries", 7, 5, entries(z), 100, false, 6, all, 4},
		{"two behind the last", 8, 4, nil, 100, false, 6, all, 4},
		{"far behind the last", 100000, 4, entries(z), 100, false, 6, all, 4},
		// Below Start neither LogTerm nor what is passed over is looked at.
		{"one below Start, nothing", 1, 1, nil, 100, true, 2, all, 4},
		{"one below Start, LogTerm that may be any", 1, 77, nil, 100, true, 2, all, 4},
		{"two below Start, nothing", 0, 0, nil, 100, true, 2, all, 4},
		{"one below Start, one entry", 1, 0, entries(noneOf(0)), 100, true, 2, all, 4},
		{"one below Start, two entries", 1, 0, entries(noneOf(0), a), 100, true, 3, all, 4},
		{"one below Start, three entries", 1, 1, entries(a, a, b), 100, true, 4, all, 4},
		{"one below Start, four entries", 1, 1, entries(a, a, b, c), 100, true, 5, all, 5},
		{"one below Start, four entries, the last is another", 1, 1, entries(a, a, b, d), 100, true, 5, entries(a, b, d), 5},
		{"one below Start, an index up to Commit would be gone", 1, 0, entries(noneOf(0), noneOf(0)), 100, false, 6, all, 4},
		{"two below Start, one entry", 0, 0, entries(noneOf(0)), 100, true, 2, all, 4},
		{"two below Start, two entries", 0, 0, entries(noneOf(0), noneOf(5)), 100, true, 2, all, 4},
		{"two below Start, three entries", 0, 0, entries(noneOf(0), noneOf(0), a), 100, true, 3, all, 4},
		{"two below Start, four entries", 0, 0, entries(noneOf(0), noneOf(0), a, b), 100, true, 4, all, 4},
		{"two below Start, the third is another", 0, 0, entries(noneOf(0), noneOf(0), noneOf(2)), 100, false, 6, all, 4},
	}
}

func TestEntriesAskedToAppend(t *testing.T) {
	follow := followNode()
	nodes := map[string]impl.Node{
		"follows": follow,
		"stands":  standNode(),
		"leads": nodeWith(follow, func(n *impl.Node) {
			n.Role, n.Vote, n.Lead, n.Peers = 2, 1, 1, peersOf(2, 3)
		}),
		"has not heard for long": clockOf(follow, 20, 1),
		"is of a lesser Term":    nodeWith(follow, func(n *impl.Node) { n.Term, n.Vote = 4, 3 }),
		"is in no conf":          nodeWith(follow, func(n *impl.Node) { n.Id = 4 }),
	}
	for _, c := range appendCases() {
		for state, n := range nodes {
			for _, from := range without(numbers(2, 3), n.Id) {
				m := asks(3, from, n.Id, 5, c.index, c.logTerm, c.commit, c.list...)
				want := ledBy(n, from)
				if n.Term < 5 {
					want = ledBy(inTerm(n, 5), from)
				}
				want.Log.Entries, want.Commit = c.now, c.committed
				wantReceive(t, c.why+"; it "+state, n, m, want, tells(4, n.Id, from, 5, c.ok, c.told))
			}
		}
	}
}

func TestEntriesAskedToAppendToABareLog(t *testing.T) {
	for _, c := range []struct {
		why            string
		l              impl.Log
		index, logTerm int
		list           []impl.Entry
		ok             bool
		told           int
	}{
		{"nothing to nothing", logOf(0, 0), 0, 0, nil, true, 0},
		{"the first entry", logOf(0, 0), 0, 0, entries(noneOf(1)), true, 1},
		{"four entries", logOf(0, 0), 0, 0, entries(noneOf(0), noneOf(1), noneOf(1), noneOf(5)), true, 4},
		{"LogTerm above at 0", logOf(0, 0), 0, 1, nil, false, 0},
		{"LogTerm below at 0", logOf(0, 3), 0, 2, entries(noneOf(3)), false, 0},
		{"behind at 1", logOf(0, 0), 1, 0, nil, false, 0},
		{"behind at 2", logOf(0, 0), 2, 0, nil, false, 0},
		{"a beginning at 1", logOf(1, 3), 1, 2, nil, false, 0},
		{"a beginning at 2", logOf(2, 3), 2, 2, nil, false, 1},
		{"a beginning, one below", logOf(7, 3), 6, 0, entries(noneOf(0)), true, 7},
		{"a beginning, far below", logOf(7, 3), 2, 0, entries(noneOf(0), noneOf(0), noneOf(5), noneOf(5)), true, 7},
		{"a beginning, one behind", logOf(7, 3), 8, 3, nil, false, 7},
		// What is not passed over is of a lesser term than the beginning.
		{"a term that falls", logOf(7, 3), 6, 0, entries(noneOf(0), noneOf(2)), false, 7},
		{"a term that falls, and rises", logOf(7, 3), 5, 0, entries(noneOf(0), noneOf(0), noneOf(2), noneOf(4)), false, 7},
		{"a term that does not fall", logOf(7, 3), 6, 0, entries(noneOf(0), noneOf(3), noneOf(4)), true, 9},
	} {
		n := impl.Node{Id: 4, Term: 5, Conf: numbers(1, 2), Log: c.l, Commit: c.l.Start, Clock: 8, Limit: 9}
		want := ledBy(n, 2)
		if c.ok {
			behind := c.told - c.l.Start
			want.Log.Entries = c.list[len(c.list)-behind:]
			want.Commit = c.told
		}
		wantReceive(t, c.why, n, asks(3, 2, 4, 5, c.index, c.logTerm, 100000, c.list...), want, tells(4, 4, 2, 5, c.ok, c.told))
	}
}

func TestEntriesThatAreTooMany(t *testing.T) {
	for _, start := range numbers(0, 7) {
		for count := 114; count <= 120; count++ {
			n := impl.Node{Id: 1, Term: 5, Conf: numbers(1, 2), Log: logOfMany(start, 3, count), Commit: start, Limit: 9}
			for ahead := 0; ahead <= 5; ahead++ {
				for more := 0; more <= 4; more++ {
					list := slices.Repeat(entries(noneOf(5)), more)
					index := start + count - ahead
					ok := more == 0 || count-ahead+more <= 120
					want := ledBy(n, 2)
					told := start + count
					if ok {
						told = index + more
						want.Commit = told
					}
					if ok && more > 0 {
						want.Log.Entries = slices.Concat(n.Log.Entries[:count-ahead], list)
					}
					wantReceive(t, "MaxLog", n, asks(3, 2, 1, 5, index, 3, 100000, list...), want, tells(4, 1, 2, 5, ok, told))
				}
			}
		}
	}
}

func TestEntriesBehindMaxIndex(t *testing.T) {
	for last := 99994; last <= 100000; last++ {
		n := impl.Node{Id: 1, Term: 5, Conf: numbers(1, 2), Log: logOfMany(99990, 3, last-99990), Commit: 99992, Limit: 9}
		for more := 0; more <= 4; more++ {
			list := slices.Repeat(entries(noneOf(5)), more)
			want, told := ledBy(n, 2), last
			if last+more <= 100000 {
				told = last + more
				want.Commit, want.Log.Entries = told, slices.Concat(n.Log.Entries, list)
			}
			wantReceive(t, "MaxIndex", n, asks(3, 2, 1, 5, last, 3, 100000, list...), want, tells(4, 1, 2, 5, last+more <= 100000, told))
		}
	}
}

// An EntryConf that comes holds at once, and one that is gone holds no more.
func TestConfsThatAreAppended(t *testing.T) {
	n := followNode()
	o := received(n, asks(3, 2, 1, 5, 6, 4, 0, confOf(5, "\x02\x03")))
	if !slices.Equal(impl.ConfOf(o.node), numbers(2, 3)) {
		t.Errorf("ConfOf behind an EntryConf is %v", impl.ConfOf(o.node))
	}
	o = received(n, asks(3, 2, 1, 5, 4, 1, 0, noneOf(5)))
	if !slices.Equal(impl.ConfOf(o.node), numbers(1, 2)) {
		t.Errorf("ConfOf without the EntryConf is %v", impl.ConfOf(o.node))
	}
}

// peerTold is leadNode whose peer at this place is another, with this Commit.
func peerTold(at, next, match, sent, commit int) impl.Node {
	return nodeWith(leadNode(), func(n *impl.Node) {
		n.Peers[at].Next, n.Peers[at].Match, n.Peers[at].Sent, n.Commit = next, match, sent, commit
	})
}

func TestAppendsToldOk(t *testing.T) {
	n := leadNode()
	own := n.Log.Entries
	for _, c := range []struct {
		why                 string
		from, index         int
		next, match, commit int
		sends               bool
		term                int
	}{
		{"the last", 2, 8, 9, 8, 8, false, 0},
		{"behind the last", 2, 9, 9, 8, 8, false, 0},
		{"far behind the last", 2, 100000, 9, 8, 8, false, 0},
		{"ahead of the last", 2, 7, 8, 7, 7, true, 5},
		{"Match again, of an elder term", 2, 6, 7, 6, 4, true, 4},
		{"below Match", 2, 5, 7, 6, 4, true, 4},
		{"at Start", 2, 2, 7, 6, 4, true, 4},
		{"below Start", 2, 1, 7, 6, 4, true, 4},
		{"nothing", 2, 0, 7, 6, 4, true, 4},
		{"the last, of the other one", 3, 8, 9, 8, 8, false, 0},
		{"ahead of the last, of the other one", 3, 7, 8, 7, 7, true, 5},
		{"one of an elder term, which most have", 3, 6, 7, 6, 4, true, 4},
		{"the EntryConf, which most have", 3, 5, 6, 5, 4, true, 3},
		{"one that is committed", 3, 4, 5, 4, 4, true, 1},
		{"Match of the other one again", 3, 3, 4, 3, 4, true, 1},
		{"below Match of the other one", 3, 0, 4, 3, 4, true, 1},
	} {
		at, sent := c.from-2, n.Peers[c.from-2].Sent
		for kind, left := range map[int]int{4: sent, 6: 0} {
			want := peerTold(at, c.next, c.match, left, c.commit)
			var told []impl.Message
			if c.sends {
				told = append(told, asks(3, 1, c.from, 5, c.next-1, c.term, c.commit, own[c.next-3:min(c.next+1, 6)]...))
			}
			wantReceive(t, c.why, n, tells(kind, c.from, 1, 5, true, c.index), want, told...)
		}
	}
}

// A peer that has less than the log's beginning is shipped a segment, from its
// first byte on when it has told that it has installed another one.
func TestAppendsToldOkFromBelowStart(t *testing.T) {
	for index := 0; index <= 3; index++ {
		n := peerTold(0, 1, 0, 60, 4)
		for kind, sent := range map[int]int{4: 60, 6: 0} {
			want := peerTold(0, index+1, index, sent, 4)
			told := ships(1, 2, 5, 2, 1, sent, 1, 2)
			if index >= 2 {
				told = asks(3, 1, 2, 5, index, 1, 4, n.Log.Entries[index-2:index+2]...)
			}
			wantReceive(t, "from below Start", n, tells(kind, 2, 1, 5, true, index), want, told)
		}
	}
}

func TestAppendsToldNotOk(t *testing.T) {
	own := leadNode().Log.Entries
	terms := map[int]int{2: 1, 3: 1, 4: 1, 5: 3, 6: 4, 7: 5, 8: 5}
	for next := 1; next <= 9; next++ {
		for match := 0; match < next; match++ {
			for _, index := range numbers(0, 1, 2, 3, 4, 5, 6, 7, 8, 9, 10, 99999, 100000) {
				n := peerTold(0, next, match, 77, 4)
				now := max(index, match) + 1
				if now >= next {
					now = next
				}
				told := ships(1, 2, 5, 2, 1, 77, 1, 2)
				if now > 2 {
					told = asks(3, 1, 2, 5, now-1, terms[now-1], 4, own[now-3:min(now+1, 6)]...)
				}
				wantReceive(t, "not Ok", n, tells(4, 2, 1, 5, false, index), peerTold(0, now, match, 77, 4), told)
			}
		}
	}
	n := leadNode()
	wantReceive(t, "the second peer, at Start", peerTold(1, 5, 0, 9, 4), tells(4, 3, 1, 5, false, 2), peerTold(1, 3, 0, 9, 4), asks(3, 1, 3, 5, 2, 1, 4, own[:4]...))
	wantReceive(t, "the second peer, below Start", peerTold(1, 5, 0, 9, 4), tells(4, 3, 1, 5, false, 1), peerTold(1, 2, 0, 9, 4), ships(1, 3, 5, 2, 1, 9, 1, 2))
	wantReceive(t, "the second peer, below Match", n, tells(4, 3, 1, 5, false, 1), peerTold(1, 4, 3, 9, 4), asks(3, 1, 3, 5, 3, 1, 4, own[1:5]...))
	wantReceive(t, "the second peer, nothing new", n, tells(4, 3, 1, 5, false, 8), n, asks(3, 1, 3, 5, 4, 1, 4, own[2:6]...))
}

func TestInstallsToldNotOk(t *testing.T) {
	own := leadNode().Log.Entries
	for _, index := range numbers(0, 1, 2, 3, 8, 100000) {
		for _, commit := range numbers(0, 1, 60, 19999, 20000) {
			sent := 0
			if index == 2 {
				sent = commit
			}
			m := tells(6, 2, 1, 5, false, index)
			m.Commit = commit
			for next := 1; next <= 2; next++ {
				wantReceive(t, "shipped on", peerTold(0, next, 0, 77, 4), m, peerTold(0, next, 0, sent, 4), ships(1, 2, 5, 2, 1, sent, 1, 2))
			}
			// Next stays as it is: entries are sent where they are there.
			wantReceive(t, "sent on", peerTold(0, 3, 1, 77, 4), m, peerTold(0, 3, 1, sent, 4), asks(3, 1, 2, 5, 2, 1, 4, own[:4]...))
			wantReceive(t, "nothing to send", peerTold(0, 9, 6, 77, 4), m, peerTold(0, 9, 6, sent, 4), asks(3, 1, 2, 5, 8, 5, 4))
			m.From = 3
			wantReceive(t, "the second peer", peerTold(1, 2, 1, 77, 4), m, peerTold(1, 2, 1, sent, 4), ships(1, 3, 5, 2, 1, sent, 1, 2))
		}
	}
}

// No segment has more than MaxText bytes: with such a Sent the node would not
// stay right, so that all of it is shipped anew.
func TestInstallsToldOfTooManyBytes(t *testing.T) {
	for _, commit := range numbers(20001, 20002, 99999, 100000) {
		for _, index := range numbers(0, 2, 3) {
			m := tells(6, 2, 1, 5, false, index)
			m.Commit = commit
			wantReceive(t, "too many bytes", peerTold(0, 1, 0, 77, 4), m, peerTold(0, 1, 0, 0, 4), ships(1, 2, 5, 2, 1, 0, 1, 2))
		}
	}
}

func TestToldByNoPeer(t *testing.T) {
	for _, kind := range numbers(4, 6) {
		for _, ok := range []bool{false, true} {
			for _, index := range numbers(0, 2, 6, 8, 9) {
				for role, n := range ofEachRole() {
					wantReceive(t, "one that is not in ConfOf", n, tells(kind, 4, 1, 5, ok, index), n)
					if role != 2 {
						wantReceive(t, "it does not lead", n, tells(kind, 2, 1, 5, ok, index), n)
					}
				}
				alone := aloneNode()
				wantReceive(t, "it leads alone", alone, tells(kind, 2, 3, 2, ok, index), alone)
			}
		}
	}
}

// committing is a node of this Id that leads, of Term 5, with this Conf, the
// entries from the index 1 on, and a Match for each peer.
func committing(id int, conf []int, list []impl.Entry, commit int, matches ...int) impl.Node {
	n := impl.Node{Id: id, Term: 5, Vote: id, Role: 2, Lead: id, Conf: conf, Log: logOf(0, 0, list...), Commit: commit, Limit: 9}
	for at, other := range without(plainConfNow(n), id) {
		n.Peers = append(n.Peers, impl.Peer{Id: other, Next: len(list) + 1, Match: matches[at]})
	}
	return n
}

func TestWhoCountsForCommit(t *testing.T) {
	list := entries(noneOf(3), noneOf(4), noneOf(5), noneOf(5), noneOf(5))
	with := func(data string) []impl.Entry {
		return entries(noneOf(3), noneOf(4), noneOf(5), confOf(5, data), noneOf(5))
	}
	all := numbers(1, 2, 3, 4)
	for _, c := range []struct {
		why    string
		n      impl.Node
		from   int
		index  int
		commit int
		stops  bool
	}{
		{"two of two", committing(1, numbers(1, 2), list, 0, 0), 2, 3, 3, false},
		{"two of two, the last", committing(1, numbers(1, 2), list, 0, 0), 2, 5, 5, false},
		{"two of two, an elder Term", committing(1, numbers(1, 2), list, 0, 0), 2, 2, 0, false},
		{"two of two, an elder Term ahead of Commit", committing(1, numbers(1, 2), list, 1, 0), 2, 2, 1, false},
		{"two of two, committed already", committing(1, numbers(1, 2), list, 4, 3), 2, 4, 4, false},
		{"two of two, below Commit", committing(1, numbers(1, 2), list, 4, 3), 2, 3, 4, false},
		{"two of three", committing(1, numbers(1, 2, 3), list, 0, 0, 0), 3, 4, 4, false},
		{"two of three, the lesser one", committing(1, numbers(1, 2, 3), list, 0, 5, 0), 3, 4, 5, false},
		{"three of three", committing(1, numbers(1, 2, 3), list, 0, 3, 0), 3, 4, 4, false},
		{"two of four", committing(1, all, list, 0, 0, 0, 0), 3, 5, 0, false},
		{"three of four", committing(1, all, list, 0, 4, 0, 0), 3, 5, 4, false},
		{"three of four, the lesser one", committing(1, all, list, 0, 5, 4, 0), 4, 3, 4, false},
		{"three of four, an elder Term", committing(1, all, list, 0, 2, 0, 0), 3, 5, 0, false},
		{"four of four", committing(1, all, list, 0, 5, 5, 0), 4, 5, 5, false},
		// The conf that holds counts from the first index on.
		{"one more, two of three", committing(1, numbers(1, 2), with("\x01\x02\x03"), 0, 0, 0), 2, 3, 3, false},
		{"one more, two of four", committing(1, numbers(1, 2, 3), with("\x01\x02\x03\x04"), 0, 0, 0, 0), 2, 5, 0, false},
		{"one less, two of three", committing(1, all, with("\x01\x02\x03"), 0, 0, 0), 2, 3, 3, false},
		// The node itself, when it is not in the conf.
		{"not in it, one of two", committing(1, numbers(1, 2, 3), with("\x02\x03"), 0, 0, 0), 2, 5, 0, false},
		{"not in it, two of two, ahead of the conf", committing(1, numbers(1, 2, 3), with("\x02\x03"), 0, 5, 0), 3, 3, 3, false},
		{"not in it, two of two, the conf", committing(1, numbers(1, 2, 3), with("\x02\x03"), 0, 5, 0), 3, 4, 4, true},
		{"not in it, two of two, behind the conf", committing(1, numbers(1, 2, 3), with("\x02\x03"), 0, 5, 0), 3, 5, 5, true},
		{"not in it, one of one", committing(1, numbers(1, 2), with("\x02"), 0, 0), 2, 4, 4, true},
		{"not in it, one of one, ahead of the conf", committing(1, numbers(1, 2), with("\x02"), 0, 0), 2, 3, 3, false},
		{"not in it, two of three", committing(4, all, with("\x01\x02\x03"), 0, 4, 0, 0), 2, 5, 4, true},
		{"not in it, one of three", committing(4, all, with("\x01\x02\x03"), 0, 0, 0, 0), 2, 5, 0, false},
		{"not in it, the conf is committed already", committing(1, numbers(1, 2, 3), with("\x02\x03"), 4, 5, 0), 3, 1, 4, true},
		{"not in it, nothing new", committing(1, numbers(1, 2, 3), with("\x02\x03"), 3, 0, 0), 3, 0, 3, false},
		{"not in it, no EntryConf", committing(1, numbers(2, 3), list, 0, 0, 0), 3, 0, 0, true},
		{"not in it, no EntryConf, two of two", committing(1, numbers(2, 3), list, 0, 4, 0), 3, 5, 4, true},
	} {
		for _, kind := range numbers(4, 6) {
			want := nodeWith(c.n, func(n *impl.Node) {
				n.Commit = c.commit
				at := slices.IndexFunc(n.Peers, func(p impl.Peer) bool { return p.Id == c.from })
				n.Peers[at].Match = max(n.Peers[at].Match, c.index)
				n.Peers[at].Next = n.Peers[at].Match + 1
			})
			var told []impl.Message
			if c.stops {
				// It tells nothing more, also where the peer has not all.
				want = stoppedLeading(want)
			} else if next := want.Peers[slices.IndexFunc(want.Peers, func(p impl.Peer) bool { return p.Id == c.from })].Next; next <= 5 {
				rest := c.n.Log.Entries[next-1 : min(next+3, 5)]
				told = append(told, asks(3, c.n.Id, c.from, 5, next-1, plainLogTerm(c.n.Log, next-1), c.commit, rest...))
			}
			wantReceive(t, c.why, c.n, tells(kind, c.from, c.n.Id, 5, true, c.index), want, told...)
		}
	}
}

func TestInstallsAskedFor(t *testing.T) {
	for role, n := range ofEachRole() {
		for _, from := range numbers(2, 3, 4) {
			for _, index := range numbers(0, 2, 4, 6, 100000) {
				m := ships(from, 1, 5, index, 3, 60, 1, 2, 4)
				m.Data, m.Last, m.Ok = "bytes", true, true
				wantReceive(t, fmt.Sprint("Role ", role), n, m, ledBy(n, from))
			}
		}
	}
}

func TestMessagesThatAreNotRightOrNotToTheNode(t *testing.T) {
	wrong := map[string]impl.Message{}
	for kind, m := range ofEachKind() {
		m.From, m.To = 2, 1
		for why, change := range map[string]func(m *impl.Message){
			"Kind 0":          func(m *impl.Message) { m.Kind = 0 },
			"Kind 7":          func(m *impl.Message) { m.Kind = 7 },
			"From 0":          func(m *impl.Message) { m.From = 0 },
			"From 5":          func(m *impl.Message) { m.From = 5 },
			"From itself":     func(m *impl.Message) { m.From = 1 },
			"To 0":            func(m *impl.Message) { m.To = 0 },
			"To 3":            func(m *impl.Message) { m.To = 3 },
			"To 4":            func(m *impl.Message) { m.To = 4 },
			"To 5":            func(m *impl.Message) { m.To = 5 },
			"Term -1":         func(m *impl.Message) { m.Term = -1 },
			"Term too great":  func(m *impl.Message) { m.Term = 100001 },
			"Index -1":        func(m *impl.Message) { m.Index = -1 },
			"Index too great": func(m *impl.Message) { m.Index = 100001 },
			"LogTerm -1":      func(m *impl.Message) { m.LogTerm = -1 },
			"Commit -1":       func(m *impl.Message) { m.Commit = -1 },
			"many entries":    func(m *impl.Message) { m.Entries = slices.Repeat(entries(noneOf(3)), 5) },
			"a wrong entry":   func(m *impl.Message) { m.Entries = entries(commandOf(3, letters(121))) },
			"a wrong Conf":    func(m *impl.Message) { m.Conf = numbers(2, 1) },
			"long Data":       func(m *impl.Message) { m.Data = letters(61) },
		} {
			wrong[fmt.Sprint("Kind ", kind, ": ", why)] = messageWith(m, change)
		}
	}
	wrong["zero"] = impl.Message{}
	for why, m := range wrong {
		for _, n := range ofEachRole() {
			wantNoReceive(t, why, n, m)
			wantNoReceive(t, why+", a Term above", nodeWith(n, func(n *impl.Node) { n.Term = 9 }), m)
		}
	}
}

func TestStepsOfNodesThatAreNotRight(t *testing.T) {
	for role, n := range ofEachRole() {
		for why, change := range map[string]func(n *impl.Node){
			"Term below the log's": func(n *impl.Node) { n.Term = 3 },
			"Term too great":       func(n *impl.Node) { n.Term = 100001 },
			"Vote -1":              func(n *impl.Node) { n.Vote = -1 },
			"Lead 5":               func(n *impl.Node) { n.Lead = 5 },
			"Commit below Start":   func(n *impl.Node) { n.Commit = 1 },
			"Commit behind":        func(n *impl.Node) { n.Commit = 9 },
			"Clock -1":             func(n *impl.Node) { n.Clock = -1 },
			"Clock too great":      func(n *impl.Node) { n.Clock = 21 },
			"Limit 0":              func(n *impl.Node) { n.Limit = 0 },
			"Role 3":               func(n *impl.Node) { n.Role = 3 },
			"no Conf":              func(n *impl.Node) { n.Conf = nil },
			"odd Votes":            func(n *impl.Node) { n.Votes = numbers(3, 1) },
			"an odd peer":          func(n *impl.Node) { n.Peers = append(n.Peers, impl.Peer{}) },
			"a wrong log":          func(n *impl.Node) { n.Log.Entries = append(n.Log.Entries, noneOf(0)) },
		} {
			wrong := nodeWith(n, change)
			why = fmt.Sprint(why, ", Role ", role)
			wantNode(t, why, wrong, false)
			for _, limit := range numbers(0, 1, 20) {
				wantNoTick(t, why, wrong, limit)
			}
			for _, m := range ofEachKind() {
				m.From, m.To = 2, 1
				wantNoReceive(t, why, wrong, m)
				m.Term = 100000
				wantNoReceive(t, why, wrong, m)
			}
			for kind := range 5 {
				wantNoPropose(t, why, wrong, kind, "")
				wantNoPropose(t, why, wrong, kind, "\x01\x02\x03\x04")
			}
			for index := range 9 {
				wantNoSettle(t, why, wrong, index)
			}
		}
	}
}

// proposedBehind is leadNode with this entry, and what it sends of it.
func proposedBehind(e impl.Entry) (impl.Node, []impl.Message) {
	n := nodeWith(leadNode(), func(n *impl.Node) { n.Log.Entries = append(n.Log.Entries, e) })
	own := n.Log.Entries
	return n, []impl.Message{asks(3, 1, 2, 5, 8, 5, 4, e), asks(3, 1, 3, 5, 4, 1, 4, own[2:6]...)}
}

func TestProposals(t *testing.T) {
	for _, e := range entries(noneOf(5), commandOf(5, ""), commandOf(5, "x"), commandOf(5, "\x01\x02"), commandOf(5, letters(120))) {
		want, told := proposedBehind(e)
		wantPropose(t, "ordinary", leadNode(), e.Kind, e.Data, 9, want, told...)
		for role := range 2 {
			wantNoPropose(t, "it does not lead", ofEachRole()[role], e.Kind, e.Data)
		}
	}
	for _, e := range entries(noneOf(5), commandOf(5, letters(121)), commandOf(5, letters(30000))) {
		wantNoPropose(t, "an entry that is not right", leadNode(), e.Kind, e.Data+" ")
	}
	for _, kind := range append(farNumbers(), 0, 4, 5) {
		for _, data := range []string{"", "x", "\x01\x02\x03"} {
			wantNoPropose(t, "no Kind", leadNode(), kind, data)
		}
	}
	for _, data := range []string{"", "\x00", "\x05", "\x02\x01", "\x01\x01", "\x01\x02\x03\x04\x05", "123"} {
		wantNoPropose(t, "no conf", confLead(), 2, data)
	}
}

func TestProposalsWithoutRoom(t *testing.T) {
	for _, c := range []struct {
		l  impl.Log
		ok bool
	}{
		{logOfMany(0, 2, 118), true},
		{logOfMany(0, 2, 119), true},
		{logOfMany(0, 2, 120), false},
		{logOfMany(7, 2, 119), true},
		{logOfMany(7, 2, 120), false},
		{logOfMany(99990, 2, 9), true},
		{logOfMany(99990, 2, 10), false},
		{logOf(99999, 2), true},
		{logOf(100000, 2), false},
	} {
		last, _ := plainLast(c.l)
		alone := nodeWith(aloneNode(), func(n *impl.Node) { n.Log, n.Commit = c.l, c.l.Start })
		two := nodeWith(alone, func(n *impl.Node) { n.Conf, n.Peers = numbers(2, 3), []impl.Peer{{Id: 2, Next: last + 1}} })
		for _, e := range entries(noneOf(2), commandOf(2, "x")) {
			if !c.ok {
				wantNoPropose(t, "no room, alone", alone, e.Kind, e.Data)
				wantNoPropose(t, "no room", two, e.Kind, e.Data)
				continue
			}
			put := func(n *impl.Node) { n.Log.Entries = append(n.Log.Entries, e) }
			want := nodeWith(alone, put)
			want.Commit = last + 1
			wantPropose(t, "room, alone", alone, e.Kind, e.Data, last+1, want)
			wantPropose(t, "room", two, e.Kind, e.Data, last+1, nodeWith(two, put), asks(3, 3, 2, 2, last, 2, c.l.Start, e))
		}
	}
}

// One that leads alone commits what is proposed at once.
func TestProposalsOfOneThatIsAlone(t *testing.T) {
	n := aloneNode()
	for at := range 119 {
		index := at + 2
		kind, data := []int{1, 3, 3}[at%3], []string{"", "x", ""}[at%3]
		want := nodeWith(n, func(n *impl.Node) {
			n.Log.Entries = append(n.Log.Entries, entryOf(2, kind, data))
			n.Commit = index
		})
		wantPropose(t, "alone", n, kind, data, index, want)
		n = want
	}
	wantNoPropose(t, "MaxLog", n, 1, "")
	settled, ok := impl.Settle(n, 100)
	if !ok {
		t.Fatal("Settle is false")
	}
	want := nodeWith(settled, func(n *impl.Node) {
		n.Log.Entries = append(n.Log.Entries, commandOf(2, "more"))
		n.Commit = 121
	})
	wantPropose(t, "room again", settled, 3, "more", 121, want)
}

// Entries of an elder Term are committed by one of the node's own, behind them.
func TestProposalsThatCommitWhatStoodAhead(t *testing.T) {
	n := nodeWith(aloneNode(), func(n *impl.Node) { n.Term, n.Log, n.Commit = 6, logOf(3, 1, noneOf(2), commandOf(4, "x")), 3 })
	want := nodeWith(n, func(n *impl.Node) {
		n.Log.Entries = append(n.Log.Entries, commandOf(6, "y"))
		n.Commit = 6
	})
	wantPropose(t, "elder ones ahead", n, 3, "y", 6, want)
}

// confLead leads the first three nodes; its conf may be changed.
func confLead() impl.Node {
	return impl.Node{Id: 1, Term: 5, Vote: 1, Role: 2, Lead: 1, Conf: numbers(1, 2), Commit: 5, Limit: 9, Clock: 2,
		Log:   logOf(2, 1, noneOf(1), confOf(3, "\x01\x02\x03"), noneOf(5), commandOf(5, "x")),
		Peers: []impl.Peer{{Id: 2, Next: 7, Match: 5, Sent: 3}, {Id: 3, Next: 4, Match: 2, Sent: 8}}}
}

func TestProposalsOfConfs(t *testing.T) {
	n := confLead()
	put := func(data string, peers ...impl.Peer) impl.Node {
		return nodeWith(n, func(n *impl.Node) {
			n.Log.Entries = append(n.Log.Entries, confOf(5, data))
			n.Peers = peers
		})
	}
	own := n.Log.Entries
	two, three := n.Peers[0], n.Peers[1]
	e := confOf(5, "\x01\x02\x03\x04")
	wantPropose(t, "one more", n, 2, e.Data, 7, put(e.Data, two, three, impl.Peer{Id: 4, Next: 7}),
		asks(3, 1, 2, 5, 6, 5, 5, e), asks(3, 1, 3, 5, 3, 1, 5, own[1], own[2], own[3], e), asks(3, 1, 4, 5, 6, 5, 5, e))
	e = confOf(5, "\x01\x02")
	wantPropose(t, "one less", n, 2, e.Data, 7, put(e.Data, two), asks(3, 1, 2, 5, 6, 5, 5, e))
	e = confOf(5, "\x01\x03")
	wantPropose(t, "another one less", n, 2, e.Data, 7, put(e.Data, three), asks(3, 1, 3, 5, 3, 1, 5, own[1], own[2], own[3], e))
	e = confOf(5, "\x02\x03")
	wantPropose(t, "the node itself less", n, 2, e.Data, 7, put(e.Data, two, three),
		asks(3, 1, 2, 5, 6, 5, 5, e), asks(3, 1, 3, 5, 3, 1, 5, own[1], own[2], own[3], e))
	for why, data := range map[string]string{
		"the same":                   "\x01\x02\x03",
		"two less":                   "\x01",
		"two less, the second":       "\x02",
		"another one for one":        "\x01\x02\x04",
		"another one for the node":   "\x02\x03\x04",
		"one less, and another":      "\x01\x04",
		"all others":                 "\x04",
		"two less, and another":      "\x02\x04",
		"one more, not of this sort": "\x01\x02\x03\x05",
		"one more, not ascending":    "\x01\x02\x04\x03",
	} {
		wantNoPropose(t, why, n, 2, data)
	}
}

// Each right conf against each that may hold: just one more and one less is taken.
func TestConfsChangeByOneNode(t *testing.T) {
	taken := 0
	for _, held := range rightConfs() {
		for id := 1; id <= 4; id++ {
			n := impl.Node{Id: id, Term: 5, Role: 2, Conf: held, Log: logOf(7, 5), Commit: 7, Limit: 9, Peers: peersOf(without(held, id)...)}
			for data, conf := range rightConfs() {
				got := proposed(n, 2, data)
				wantOutcome(t, "each conf", n, got, plainPropose(n, 2, data))
				if got.ok != plainOneApart(held, conf) {
					t.Errorf("of %v comes %v: %v", held, conf, got.ok)
				}
				if got.ok {
					taken++
				}
			}
		}
	}
	// Four confs of one, six of two, four of three, one of four: 1-2, 2-3 and 3-4 apart by one, both ways.
	if taken != 4*2*(12+12+4) {
		t.Errorf("%d confs are taken", taken)
	}
}

func TestTwoMoreAndTwoLess(t *testing.T) {
	for _, c := range []struct {
		held []int
		data string
	}{
		{numbers(1), "\x01\x02\x03"},
		{numbers(1), "\x01\x02\x03\x04"},
		{numbers(1), "\x02"},
		{numbers(1), "\x01"},
		{numbers(1, 2), "\x01\x02\x03\x04"},
		{numbers(1, 2, 3, 4), "\x01\x02"},
		{numbers(1, 2, 3, 4), "\x01"},
		{numbers(1, 2, 3, 4), "\x01\x02\x03\x04"},
	} {
		n := impl.Node{Id: 1, Term: 5, Role: 2, Conf: c.held, Log: logOf(7, 5), Commit: 7, Limit: 9, Peers: peersOf(without(c.held, 1)...)}
		wantNoPropose(t, "not by one", n, 2, c.data)
	}
}

func TestWhenAConfMayBeProposed(t *testing.T) {
	open := nodeWith(confLead(), func(n *impl.Node) {
		n.Log.Entries = append(n.Log.Entries, confOf(5, "\x01\x02"), noneOf(5))
		n.Peers = n.Peers[:1]
	})
	for _, commit := range numbers(5, 6) {
		n := nodeWith(open, func(n *impl.Node) { n.Commit = commit })
		for _, data := range []string{"\x01", "\x01\x02\x03", "\x02"} {
			wantNoPropose(t, "a second one behind Commit", n, 2, data)
		}
		if o := proposed(n, 3, "x"); !o.ok || o.index != 9 {
			t.Errorf("a command behind an EntryConf: %s", shortOutcome(o))
		}
	}
	for _, commit := range numbers(7, 8) {
		n := nodeWith(open, func(n *impl.Node) { n.Commit = commit })
		if o := proposed(n, 2, "\x01\x02\x03"); !o.ok || o.index != 9 || len(o.told) != 2 {
			t.Errorf("a conf behind one that is committed: %s", shortOutcome(o))
		}
	}
	for _, commit := range numbers(2, 3, 4) {
		// The term of Commit is 1, or 3; at 2 and 3 an EntryConf is behind it, too.
		n := nodeWith(confLead(), func(n *impl.Node) { n.Commit = commit })
		wantNoPropose(t, "LogTerm of Commit is not Term", n, 2, "\x01\x02")
	}
	fresh := nodeWith(confLead(), func(n *impl.Node) { n.Term = 6 })
	wantNoPropose(t, "nothing of this Term is committed", fresh, 2, "\x01\x02")
	begun := impl.Node{Id: 1, Term: 5, Role: 2, Conf: numbers(1, 2), Log: logOf(7, 5), Commit: 7, Limit: 9, Peers: peersOf(2)}
	if o := proposed(begun, 2, "\x01\x02\x03"); !o.ok || o.index != 8 {
		t.Errorf("the log's beginning is of this Term: %s", shortOutcome(o))
	}
	begun.Log.StartTerm = 4
	wantNoPropose(t, "the log's beginning is of an elder Term", begun, 2, "\x01\x02\x03")
}

func TestConfsProposedByOneThatIsAlone(t *testing.T) {
	n := aloneNode()
	e := confOf(2, "\x01\x03")
	want := nodeWith(n, func(n *impl.Node) {
		n.Log.Entries = append(n.Log.Entries, e)
		n.Peers = []impl.Peer{{Id: 1, Next: 2}}
	})
	wantPropose(t, "it is not alone then", n, 2, e.Data, 2, want, asks(3, 3, 1, 2, 1, 2, 1, e))
	// With one of two gone it is alone, and commits that at once.
	two := nodeWith(want, func(n *impl.Node) { n.Commit = 2 })
	alone := nodeWith(two, func(n *impl.Node) {
		n.Log.Entries = append(n.Log.Entries, confOf(2, "\x03"))
		n.Peers, n.Commit = nil, 3
	})
	wantPropose(t, "alone again", two, 2, "\x03", 3, alone)
	wantNoPropose(t, "nobody", alone, 2, "")
}

// A conf of one less may make most of what was not.
func TestConfsThatCommitWhatStoodAhead(t *testing.T) {
	n := committing(1, numbers(1, 2, 3, 4), entries(noneOf(5), noneOf(5), noneOf(5)), 1, 2, 0, 0)
	e := confOf(5, "\x01\x02\x03")
	want := nodeWith(n, func(n *impl.Node) {
		n.Log.Entries = append(n.Log.Entries, e)
		n.Peers, n.Commit = n.Peers[:2], 2
	})
	wantPropose(t, "two of three", n, 2, e.Data, 4, want, asks(3, 1, 2, 5, 3, 5, 2, e), asks(3, 1, 3, 5, 3, 5, 2, e))
}

// A node that leads and is not in ConfOf stops behind what it commits.
func TestProposalsOfOneThatIsNotInConfOf(t *testing.T) {
	n := committing(1, numbers(1, 2, 3), entries(noneOf(5), confOf(5, "\x02\x03"), noneOf(5)), 2, 1, 1)
	want := stoppedLeading(nodeWith(n, func(n *impl.Node) { n.Log.Entries = append(n.Log.Entries, commandOf(5, "x")) }))
	wantPropose(t, "its conf is committed", n, 3, "x", 4, want)
	open := nodeWith(n, func(n *impl.Node) { n.Commit = 1 })
	goes := nodeWith(open, func(n *impl.Node) { n.Log.Entries = append(n.Log.Entries, commandOf(5, "x")) })
	wantPropose(t, "its conf is behind Commit", open, 3, "x", 4, goes,
		asks(3, 1, 2, 5, 3, 5, 1, commandOf(5, "x")), asks(3, 1, 3, 5, 3, 5, 1, commandOf(5, "x")))
	// It may come in again: then its own entry is behind Commit, and it leads on.
	e := confOf(5, "\x01\x02\x03")
	back := nodeWith(n, func(n *impl.Node) { n.Log.Entries = append(n.Log.Entries, e) })
	wantPropose(t, "it comes in again", n, 2, e.Data, 4, back, asks(3, 1, 2, 5, 3, 5, 2, e), asks(3, 1, 3, 5, 3, 5, 2, e))
}

func TestSettle(t *testing.T) {
	n := confLead()
	at := func(index int, conf []int, l impl.Log) impl.Node {
		return nodeWith(n, func(n *impl.Node) { n.Conf, n.Log = conf, l })
	}
	own := n.Log.Entries
	wantNoSettle(t, "below Start", n, 1)
	wantSettle(t, "at Start", n, 2, n)
	wantSettle(t, "ahead of the EntryConf", n, 3, at(3, numbers(1, 2), logOf(3, 1, own[1:]...)))
	wantSettle(t, "at the EntryConf", n, 4, at(4, numbers(1, 2, 3), logOf(4, 3, own[2:]...)))
	wantSettle(t, "at Commit", n, 5, at(5, numbers(1, 2, 3), logOf(5, 5, own[3:]...)))
	wantNoSettle(t, "behind Commit", n, 6)
	wantNoSettle(t, "behind the log", n, 7)
	for _, index := range append(farNumbers(), 0, 100000, 100001) {
		wantNoSettle(t, "far off", n, index)
	}
	whole := nodeWith(n, func(n *impl.Node) { n.Commit = 6 })
	want := nodeWith(whole, func(n *impl.Node) { n.Conf, n.Log = numbers(1, 2, 3), logOf(6, 5) })
	wantSettle(t, "all of it", whole, 6, want)
	wantSettle(t, "all of it, again", want, 6, want)
	bare := impl.Node{Id: 1, Conf: numbers(4), Limit: 1}
	wantSettle(t, "nothing", bare, 0, bare)
	wantNoSettle(t, "nothing, one behind", bare, 1)
	wantNoSettle(t, "nothing, one below", bare, -1)
}

func TestSettleAtEachIndex(t *testing.T) {
	l := logOf(4, 1, confOf(1, "\x02\x03"), noneOf(1), confOf(1, "\x03"), commandOf(2, "\x04"), confOf(2, "\x03\x04"), noneOf(3))
	confs := map[int][]int{4: {2}, 5: {2, 3}, 6: {2, 3}, 7: {3}, 8: {3}, 9: {3, 4}, 10: {3, 4}}
	for role := range 2 {
		for commit := 4; commit <= 10; commit++ {
			n := impl.Node{Id: 2, Term: 7, Vote: 1, Role: role, Lead: 3, Conf: numbers(2), Log: l, Commit: commit, Clock: 8, Limit: 9}
			for index := 0; index <= 13; index++ {
				if index < 4 || index > commit {
					wantNoSettle(t, "not in Start .. Commit", n, index)
					continue
				}
				want := nodeWith(n, func(n *impl.Node) {
					n.Conf, n.Log = confs[index], logOf(index, plainLogTerm(l, index), l.Entries[index-4:]...)
				})
				wantSettle(t, "each index", n, index, want)
				if got := impl.ConfOf(settled(n, index).node); !slices.Equal(got, numbers(3, 4)) {
					t.Errorf("settled at %d, ConfOf is %v", index, got)
				}
			}
		}
	}
}

// A small story, message by message.
func TestThreeNodesAgree(t *testing.T) {
	conf := numbers(1, 2, 3)
	one, _ := impl.NodeNew(1, conf)
	two, _ := impl.NodeNew(2, conf)
	three, _ := impl.NodeNew(3, conf)
	one.Limit = 1
	step := func(got outcome, count int) []impl.Message {
		t.Helper()
		if !got.ok || len(got.told) != count {
			t.Fatalf("%s; want %d messages", shortOutcome(got), count)
		}
		return got.told
	}
	o := ticked(one, 20)
	votes := step(o, 2)
	one = o.node
	o = received(two, votes[0])
	vote := step(o, 1)[0]
	two = o.node
	o = received(one, vote)
	first := step(o, 2)
	one = o.node
	if one.Role != impl.RoleLead || two.Vote != 1 || two.Term != 1 {
		t.Errorf("one does not lead: %s, %s", shortNode(one), shortNode(two))
	}
	// The third one votes late, which does no more.
	o = received(three, votes[1])
	late := step(o, 1)[0]
	three = o.node
	step(received(one, late), 0)
	o = received(two, first[0])
	ack := step(o, 1)[0]
	two = o.node
	o = received(one, ack)
	step(o, 0)
	one = o.node
	if one.Commit != 1 || two.Commit != 0 {
		t.Errorf("Commit is %d and %d", one.Commit, two.Commit)
	}
	p := proposed(one, impl.EntryCommand, "x")
	more := step(p, 2)
	one = p.node
	if p.index != 2 || more[0].Commit != 1 {
		t.Errorf("proposed at %d", p.index)
	}
	// The third one gets both entries at once.
	o = received(three, more[1])
	step(o, 1)
	three = o.node
	if len(three.Log.Entries) != 2 || three.Commit != 1 || three.Lead != 1 {
		t.Errorf("three is %s", shortNode(three))
	}
	o = received(one, o.told[0])
	step(o, 0)
	one = o.node
	if one.Commit != 2 {
		t.Errorf("Commit is %d", one.Commit)
	}
	o = ticked(one, 20)
	for _, m := range step(o, 2) {
		if m.Commit != 2 {
			t.Errorf("%s", shortMessage(m))
		}
	}
	o = received(two, o.told[0])
	step(o, 1)
	if o.node.Commit != 2 || !sameLog(o.node.Log, one.Log) {
		t.Errorf("two is %s", shortNode(o.node))
	}
}
