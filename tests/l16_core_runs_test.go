package tests

import (
	"fmt"
	"slices"
	"strings"
	"sync"
	"testing"

	"loop.example/g00103/impl"
)

// drawnCoreTail has entries whose terms are near each other, with more confs
// than not where there are to be some.
func drawnCoreTail(d *drawing, count, term int) []impl.Entry {
	var list []impl.Entry
	for range count {
		term = min(term+d.below(5)/3, 100000)
		switch d.below(5) {
		case 0:
			text, _ := plainConfText(drawnSet(d, 4, 1, 5))
			list = append(list, confOf(term, text))
		case 1, 2:
			list = append(list, noneOf(term))
		default:
			list = append(list, commandOf(term, d.bytes(4)))
		}
	}
	return list
}

// drawnNode is right, of any Role.
func drawnNode(d *drawing) impl.Node {
	count := d.below([]int{1, 4, 9, 9}[d.below(4)])
	start := d.below([]int{1, 4, 9}[d.below(3)])
	switch d.below(20) {
	case 0:
		count = 116 + d.below(5)
	case 1:
		start = 100000 - count - d.below(4)
	}
	term := d.below(4)
	n := impl.Node{Id: 1 + d.below(4), Conf: drawnSet(d, 4, 1, 5), Role: d.below(3), Vote: d.below(5), Lead: d.below(5)}
	n.Log = logOf(start, term, drawnCoreTail(d, count, term)...)
	_, lastTerm := plainLast(n.Log)
	n.Term = lastTerm + d.below(3)
	if d.below(30) == 0 {
		n.Term = 100000 - d.below(2)
	}
	n.Commit = start + d.below(count+1)
	n.Limit = 1 + d.below([]int{3, 20}[d.below(2)])
	n.Clock = d.below([]int{3, 21}[d.below(2)])
	if n.Role == 1 && d.below(6) > 0 {
		n.Votes = drawnSet(d, 2, 1, 5)
	}
	if n.Role == 2 {
		n.Peers = drawnPeers(d, n)
	}
	return n
}

func drawnPeers(d *drawing, n impl.Node) []impl.Peer {
	var peers []impl.Peer
	last, _ := plainLast(n.Log)
	for _, id := range without(plainConfNow(n), n.Id) {
		next := last + 1 - d.below(min(last+1, 12))
		peers = append(peers, impl.Peer{Id: id, Next: next, Match: max(0, next-1-d.below(5)), Sent: d.below([]int{1, 200, 20001}[d.below(3)])})
	}
	return peers
}

// drawnTo is a message to the node, near to what it has; it is right most of
// the time.
func drawnTo(d *drawing, n impl.Node) impl.Message {
	last, lastTerm := plainLast(n.Log)
	m := impl.Message{Kind: 1 + d.below(6), To: n.Id, From: 1 + (n.Id+d.below(3))%4, Ok: d.below(2) == 0}
	m.Term = min(100000, max(0, n.Term+[]int{-1, 0, 0, 0, 0, 1, 3}[d.below(7)]))
	m.Index = []int{last, last + d.below(3) - 1, n.Commit, n.Commit + d.below(3) - 1, n.Log.Start, n.Log.Start + d.below(5) - 2, d.below(12)}[d.below(7)]
	m.Index = min(100000, max(0, m.Index))
	m.LogTerm = max(0, plainLogTerm(n.Log, m.Index))
	if d.below(5) == 0 {
		m.LogTerm = max(0, lastTerm+d.below(4)-2)
	}
	m.Commit = min(100000, max(0, n.Commit+d.below(8)-2))
	switch m.Kind {
	case 3:
		drawEntriesTo(d, n, &m)
	case 5:
		m.Conf, m.Data, m.Last = drawnSet(d, 4, 1, 5), d.bytes(60), d.below(2) == 0
	case 6:
		m.Commit = d.below([]int{1, 200, 20003, 100001}[d.below(4)])
	}
	if d.below(60) == 0 {
		m = spoiledMessage(d, m)
	}
	return m
}

// drawEntriesTo gives a message entries that the node has, up to some place, and
// others behind it.
func drawEntriesTo(d *drawing, n impl.Node, m *impl.Message) {
	term := m.LogTerm
	same := d.below(5)
	for at := range d.below(5) {
		own := m.Index + 1 + at
		if has := plainLogTerm(n.Log, own); at < same && own > n.Log.Start && has >= term {
			term = has
			m.Entries = append(m.Entries, n.Log.Entries[own-n.Log.Start-1])
			continue
		}
		m.Entries = append(m.Entries, drawnCoreTail(d, 1, term)...)
		term = m.Entries[at].Term
	}
	m.Term = min(100000, max(m.Term, term))
}

// drawnPlan is a kind and data to be proposed, most of the time such as may be.
func drawnPlan(d *drawing, n impl.Node) (int, string) {
	switch d.below(8) {
	case 0:
		return 1, ""
	case 1:
		return d.below(6) - 1, d.bytes(3)
	case 2, 3:
		return 3, d.bytes([]int{3, 121}[d.below(2)])
	case 4:
		text, _ := plainConfText(drawnSet(d, 4, 1, 5))
		return 2, text
	}
	return 2, oneApart(d, plainConfNow(n))
}

// oneApart is the text of a conf with one node more or less; it may be none.
func oneApart(d *drawing, conf []int) string {
	id := 1 + d.below(4)
	now := without(conf, id)
	if len(now) == len(conf) {
		now = append(now, id)
		slices.Sort(now)
	}
	return bytesOfConf(now)
}

func TestDrawnNodesAreRight(t *testing.T) {
	d := &drawing{state: 81}
	for range 5000 {
		wantNode(t, "drawn", drawnNode(d), true)
	}
}

func TestDrawnNodesSpoiled(t *testing.T) {
	d := &drawing{state: 82}
	right := 0
	for range 20000 {
		n := drawnNode(d)
		number := func() int { return []int{-1, 0, 1, 2, 3, 4, 5, 20, 21, 100000, 100001}[d.below(11)] }
		for range 1 + d.below(2) {
			switch d.below(13) {
			case 0:
				n.Id = number()
			case 1:
				n.Term = number()
			case 2:
				n.Vote = number()
			case 3:
				n.Role = number()
			case 4:
				n.Lead = number()
			case 5:
				n.Conf = append(n.Conf, number())
			case 6:
				n.Log = spoiledCoreLog(d, n.Log)
			case 7:
				last, _ := plainLast(n.Log)
				n.Commit = last + d.below(4) - 1
			case 8:
				n.Clock = number()
			case 9:
				n.Limit = number()
			case 10:
				n.Votes = append(n.Votes, number())
			case 11:
				n.Peers = append(n.Peers, impl.Peer{Id: number(), Next: 1})
			case 12:
				if len(n.Peers) > 0 {
					p := &n.Peers[d.below(len(n.Peers))]
					*[]*int{&p.Id, &p.Next, &p.Match, &p.Sent}[d.below(4)] = number()
				}
			}
		}
		ok := plainNodeOk(n)
		wantNode(t, "spoiled", n, ok)
		if ok {
			right++
		}
	}
	if right < 2000 || right > 18000 {
		t.Errorf("%d of the spoiled nodes are right", right)
	}
}

func spoiledCoreLog(d *drawing, l impl.Log) impl.Log {
	l = cutLog(l, len(l.Entries))
	switch d.below(4) {
	case 0:
		l.Start = d.below(4) - 1
	case 1:
		l.StartTerm = d.below(8) - 1
	case 2:
		l.Entries = append(l.Entries, entryOf(d.below(7)-1, d.below(5), d.bytes(1)))
	case 3:
		if n := len(l.Entries); n > 0 {
			l.Entries[d.below(n)].Term = d.below(8) - 1
		}
	}
	return l
}

// Each step of drawn nodes is held against the plain rules.
func TestDrawnStepsOfNodes(t *testing.T) {
	d := &drawing{state: 83}
	seen := map[string]int{}
	for range 15000 {
		n := drawnNode(d)
		limit := 1 + d.below(20)
		if d.below(30) == 0 {
			limit = d.below(24) - 1
		}
		o := ticked(n, limit)
		wantOutcome(t, fmt.Sprint("Tick with ", limit), n, o, plainTick(n, limit))
		seen[fmt.Sprint("tick of ", n.Role, " to ", o.node.Role, o.ok)]++
		for range 4 {
			m := drawnTo(d, n)
			o = received(n, m)
			wantOutcome(t, "Receive "+shortMessage(m), n, o, plainReceive(n, m))
			seen[fmt.Sprint("kind ", m.Kind, " to ", o.node.Role, o.ok)]++
			for _, r := range o.told {
				seen[fmt.Sprint("of kind ", m.Kind, " comes ", r.Kind, r.Ok)]++
			}
		}
		kind, data := drawnPlan(d, n)
		o = proposed(n, kind, data)
		wantOutcome(t, fmt.Sprintf("Propose %d %q", kind, data), n, o, plainPropose(n, kind, data))
		seen[fmt.Sprint("propose ", kind, o.ok)]++
		index := n.Log.Start + d.below(len(n.Log.Entries)+4) - 1
		o = settled(n, index)
		wantOutcome(t, fmt.Sprint("Settle at ", index), n, o, plainSettle(n, index))
		seen[fmt.Sprint("settle ", o.ok)]++
	}
	for _, what := range []string{
		"tick of 0 to 0 true", "tick of 0 to 1 true", "tick of 0 to 2 true", "tick of 1 to 1 true", "tick of 1 to 2 true", "tick of 2 to 2 true",
		"of kind 1 comes 2 true", "of kind 1 comes 2 false", "kind 2 to 2 true", "kind 2 to 1 true", "of kind 2 comes 3 false",
		"of kind 3 comes 4 true", "of kind 3 comes 4 false", "kind 3 to 0 false", "of kind 4 comes 3 false", "of kind 4 comes 5 false", "kind 4 to 2 true",
		"kind 5 to 0 true", "of kind 6 comes 3 false", "of kind 6 comes 5 false", "kind 6 to 2 true",
		"propose 1 true", "propose 2 true", "propose 3 true", "propose 2 false", "propose 3 false", "settle true", "settle false",
	} {
		if seen[what] < 30 {
			t.Errorf("%s: %d times", what, seen[what])
		}
	}
}

// A life is nodes that tell each other, and what was seen of them.
type life struct {
	t         *testing.T
	d         *drawing
	nodes     map[int]impl.Node
	net       []impl.Message
	votes     map[[2]int]int
	leaders   map[int]int
	committed map[int]impl.Entry
	seen      map[string]int
}

func newLife(t *testing.T, seed uint32, conf []int) *life {
	l := &life{t: t, d: &drawing{state: seed}, nodes: map[int]impl.Node{}, votes: map[[2]int]int{}, leaders: map[int]int{}, committed: map[int]impl.Entry{}, seen: map[string]int{}}
	for id := 1; id <= 4; id++ {
		n, ok := impl.NodeNew(id, conf)
		if !ok {
			t.Fatalf("NodeNew(%d, %v) is false", id, conf)
		}
		n.Limit = 2 + l.d.below(5)
		l.nodes[id] = n
	}
	return l
}

// take puts what a step left in the node's place, and looks at it.
func (l *life) take(why string, id int, o outcome) bool {
	l.t.Helper()
	n := l.nodes[id]
	wantSound(l.t, why, n, o)
	if !o.ok {
		return false
	}
	now := o.node
	if vote := l.votes[[2]int{id, now.Term}]; vote != 0 && vote != now.Vote {
		l.t.Errorf("%s: in Term %d node %d votes for %d and for %d", why, now.Term, id, vote, now.Vote)
	}
	l.votes[[2]int{id, now.Term}] = now.Vote
	if now.Role == impl.RoleLead {
		if lead := l.leaders[now.Term]; lead != 0 && lead != id {
			l.t.Errorf("%s: in Term %d node %d leads, and %d", why, now.Term, lead, id)
		}
		l.leaders[now.Term] = id
	}
	for index := max(now.Log.Start, n.Commit) + 1; index <= now.Commit; index++ {
		e := now.Log.Entries[index-now.Log.Start-1]
		if was, is := l.committed[index]; is && was != e {
			l.t.Errorf("%s: the index %d is %v and %v", why, index, was, e)
		}
		l.committed[index] = e
		l.seen[fmt.Sprint("committed kind ", e.Kind)]++
	}
	l.wantConfsByOne(why, now)
	l.nodes[id] = now
	l.net = append(l.net, o.told...)
	return true
}

// wantConfsByOne looks at each conf of a log and the one behind it.
func (l *life) wantConfsByOne(why string, n impl.Node) {
	conf := n.Conf
	for _, e := range n.Log.Entries {
		if e.Kind == impl.EntryConf {
			next, _ := plainReadConf(e.Data)
			if !plainOneApart(conf, next) {
				l.t.Errorf("%s: of %v comes %v: %s", why, conf, next, shortNode(n))
			}
			conf = next
		}
	}
}

func (l *life) deliver(m impl.Message) {
	n := l.nodes[m.To]
	o := received(n, m)
	wantOutcome(l.t, "a life", n, o, plainReceive(n, m))
	if m.Kind == impl.AskInstall {
		o = l.install(o, m)
	}
	l.seen[fmt.Sprint("delivered ", m.Kind, m.Ok)]++
	l.take("Receive "+shortMessage(m), m.To, o)
}

// install is what a server does with a segment: the core leaves that to it.
func (l *life) install(o outcome, m impl.Message) outcome {
	if m.Term < o.node.Term {
		return o
	}
	if m.Index > o.node.Commit {
		o.node.Log = impl.LogBehind(o.node.Log, m.Index, m.LogTerm)
		o.node.Conf, o.node.Commit = m.Conf, m.Index
		l.seen["installed"]++
	}
	o.told = append(o.told, tells(6, m.To, m.From, o.node.Term, true, m.Index))
	return o
}

func (l *life) step() {
	id := 1 + l.d.below(4)
	n := l.nodes[id]
	switch l.d.below(20) {
	case 0, 1, 2:
		limit := 3 + l.d.below(8)
		o := ticked(n, limit)
		wantOutcome(l.t, "a life", n, o, plainTick(n, limit))
		l.take("Tick", id, o)
	case 3:
		kind, data := drawnPlan(l.d, n)
		o := proposed(n, kind, data)
		wantOutcome(l.t, "a life", n, o, plainPropose(n, kind, data))
		if l.take("Propose", id, o) {
			l.seen[fmt.Sprint("proposed ", kind)]++
		}
	case 4:
		if l.d.below(3) > 0 {
			return
		}
		index := n.Log.Start + l.d.below(n.Commit-n.Log.Start+1)
		o := settled(n, index)
		wantOutcome(l.t, "a life", n, o, plainSettle(n, index))
		l.take("Settle", id, o)
	default:
		l.message()
	}
}

// message delivers one, drops one, or lets one come twice.
func (l *life) message() {
	if len(l.net) == 0 {
		return
	}
	at := l.d.below(len(l.net))
	if l.d.below(2) == 0 {
		at = 0
	}
	m := l.net[at]
	if l.d.below(12) == 0 {
		l.net = append(l.net, m)
		return
	}
	l.net = slices.Delete(l.net, at, at+1)
	if l.d.below(10) > 0 {
		l.deliver(m)
	}
}

func TestDrawnLives(t *testing.T) {
	seen := map[string]int{}
	most := 0
	for seed := range 60 {
		l := newLife(t, uint32(seed+1), [][]int{{1, 2, 3}, {1}, {1, 2, 3, 4}, {2, 4}, {3}, {1, 3, 4}}[seed%6])
		for range 3000 {
			l.step()
		}
		for what, count := range l.seen {
			seen[what] += count
		}
		for _, n := range l.nodes {
			most = max(most, n.Commit)
		}
		seen["terms"] += len(l.leaders)
	}
	for _, what := range []string{"terms", "installed", "committed kind 1", "committed kind 2", "committed kind 3", "proposed 1", "proposed 2", "proposed 3",
		"delivered 1 false", "delivered 2 true", "delivered 2 false", "delivered 3 false", "delivered 4 true", "delivered 4 false", "delivered 5 false", "delivered 6 true"} {
		if seen[what] < 20 {
			t.Errorf("%s: %d times", what, seen[what])
		}
	}
	if most < 20 {
		t.Errorf("no more than %d entries are committed", most)
	}
}

// Whatever message comes, right or not, drawn near to the node or far off.
func TestLivesOfOneNodeAmongDrawnMessages(t *testing.T) {
	d := &drawing{state: 84}
	for range 150 {
		n := drawnNode(d)
		votes := map[int]int{n.Term: n.Vote}
		for range 60 {
			var o outcome
			switch d.below(6) {
			case 0:
				o = ticked(n, 1+d.below(20))
			case 1:
				m := drawnMessage(d)
				m.To = n.Id
				o = received(n, m)
			case 2:
				kind, data := drawnPlan(d, n)
				o = proposed(n, kind, data)
			default:
				o = received(n, drawnTo(d, n))
			}
			wantSound(t, "among drawn messages", n, o)
			if !o.ok {
				continue
			}
			n = o.node
			if vote := votes[n.Term]; vote != 0 && vote != n.Vote {
				t.Errorf("in Term %d it votes for %d and %d", n.Term, vote, n.Vote)
			}
			votes[n.Term] = n.Vote
		}
	}
}

// nodeWithRoom has other things in the room behind each of its lists.
func nodeWithRoom(n impl.Node) impl.Node {
	n.Log = logWithRoom(n.Log)
	n.Conf = append(append(make([]int, 0, len(n.Conf)+9), n.Conf...), 77, 88)[:len(n.Conf)]
	n.Votes = append(append(make([]int, 0, len(n.Votes)+9), n.Votes...), 77, 88)[:len(n.Votes)]
	room := append(make([]impl.Peer, 0, len(n.Peers)+9), n.Peers...)
	n.Peers = append(room, impl.Peer{Id: 77}, impl.Peer{Id: 88})[:len(n.Peers)]
	return n
}

func roomOfNode(n impl.Node) string {
	return fmt.Sprint(n, roomOfLog(n.Log), n.Conf[:cap(n.Conf)], n.Votes[:cap(n.Votes)], n.Peers[:cap(n.Peers)])
}

func overwritePeers(list []impl.Peer) {
	for at := range list[:cap(list)] {
		list[:cap(list)][at] = impl.Peer{Id: -7, Next: -7}
	}
}

// listPart is one list of an answer: what it has, and how it is written over.
type listPart struct {
	text  func() string
	write func()
}

func listsOfOutcome(o outcome) []listPart {
	parts := []listPart{
		{func() string { return fmt.Sprint(o.node.Conf) }, func() { overwrite(o.node.Conf) }},
		{func() string { return fmt.Sprint(o.node.Votes) }, func() { overwrite(o.node.Votes) }},
		{func() string { return fmt.Sprint(o.node.Peers) }, func() { overwritePeers(o.node.Peers) }},
		{func() string { return fmt.Sprint(o.node.Log.Entries) }, func() { overwriteEntries(o.node.Log.Entries) }},
	}
	for _, m := range o.told {
		parts = append(parts,
			listPart{func() string { return fmt.Sprint(m.Entries) }, func() { overwriteEntries(m.Entries) }},
			listPart{func() string { return fmt.Sprint(m.Conf) }, func() { overwrite(m.Conf) }})
	}
	return parts
}

func wantApart(t *testing.T, why string, o outcome) {
	t.Helper()
	wantPartsApart(t, why, listsOfOutcome(o))
}

// wantPartsApart writes over one list of an answer after the other: none of the
// others changes by it.
func wantPartsApart(t *testing.T, why string, parts []listPart) {
	t.Helper()
	for at, part := range parts {
		var was []string
		for _, other := range parts {
			was = append(was, other.text())
		}
		part.write()
		for i, other := range parts {
			if i != at && other.text() != was[i] {
				t.Errorf("%s: the lists %d and %d of one answer share memory", why, at, i)
			}
		}
	}
}

// textsOfOutcome are the texts of each list of an answer.
func textsOfOutcome(o outcome) [][]string {
	all := [][]string{dataOf(o.node.Log)}
	for _, m := range o.told {
		all = append(all, dataOf(impl.Log{Entries: m.Entries}))
	}
	return all
}

// memorySteps are steps of a node, each with what is handed in beside it.
func memorySteps(d *drawing, n impl.Node) map[string]func(n impl.Node) outcome {
	m := messageWithRoom(drawnTo(d, n))
	kind, data := drawnPlan(d, n)
	index := n.Log.Start + d.below(n.Commit-n.Log.Start+1)
	return map[string]func(n impl.Node) outcome{
		"Tick":    func(n impl.Node) outcome { return ticked(n, 3) },
		"Receive": func(n impl.Node) outcome { return received(n, m) },
		"Propose": func(n impl.Node) outcome { return proposed(n, kind, data) },
		"Settle":  func(n impl.Node) outcome { return settled(n, index) },
	}
}

func TestArgumentsOfStepsStay(t *testing.T) {
	d := &drawing{state: 85}
	for range 3000 {
		n := nodeWithRoom(drawnNode(d))
		m := messageWithRoom(drawnTo(d, n))
		was, wasMessage := roomOfNode(n), roomOfMessage(m)
		kind, data := drawnPlan(d, n)
		outcomes := []outcome{ticked(n, 3), received(n, m), proposed(n, kind, data), settled(n, n.Commit), settled(n, n.Log.Start)}
		impl.NodeOk(n)
		overwrite(impl.ConfOf(n))
		overwrite(impl.ConfAt(n, n.Log.Start))
		overwrite(impl.ConfAt(n, n.Commit))
		made, _ := impl.NodeNew(n.Id, n.Conf)
		overwrite(made.Conf)
		if roomOfNode(n) != was || roomOfMessage(m) != wasMessage {
			t.Fatalf("an argument is another now: %s, was %s", roomOfNode(n), was)
		}
		for at, o := range outcomes {
			wantApart(t, fmt.Sprint("answer ", at), o)
		}
		if roomOfNode(n) != was || roomOfMessage(m) != wasMessage {
			t.Fatalf("an answer is memory of an argument: %s, was %s", roomOfNode(n), was)
		}
	}
}

func TestTwoAnswersOfStepsShareNothing(t *testing.T) {
	d := &drawing{state: 86}
	for range 500 {
		n := drawnNode(d)
		for why, step := range memorySteps(d, n) {
			first, second := step(n), step(n)
			was := shortOutcome(second) + fmt.Sprint(second)
			for _, part := range listsOfOutcome(first) {
				part.write()
			}
			if shortOutcome(second)+fmt.Sprint(second) != was {
				t.Errorf("%s: two answers share memory", why)
			}
		}
	}
}

func TestTextsOfStepsAreNewMemory(t *testing.T) {
	d := &drawing{state: 87}
	for range 1500 {
		n := drawnNode(d)
		own, words := newLog(n.Log)
		n.Log = own
		m := drawnTo(d, n)
		sent, more := newLog(impl.Log{Entries: m.Entries})
		m.Entries = sent.Entries
		kind, data := drawnPlan(d, n)
		data = strings.Clone(data)
		words = append(append(words, more...), data)
		for why, o := range map[string]outcome{
			"Tick": ticked(n, 3), "Receive": received(n, m), "Propose": proposed(n, kind, data), "Settle": settled(n, n.Commit),
		} {
			all := textsOfOutcome(o)
			for at, texts := range all {
				wantOwn(t, why, texts, words)
				for _, others := range all[at+1:] {
					wantOwn(t, why+", another list", texts, others)
				}
			}
		}
	}
}

// Empty lists and nil are the same value.
func TestEmptyListsOfNodes(t *testing.T) {
	noNumbers := [][]int{nil, {}, numbers(1)[:0]}
	for _, votes := range noNumbers {
		for _, peers := range [][]impl.Peer{nil, {}, peersOf(2)[:0]} {
			for _, list := range [][]impl.Entry{nil, {}, entries(noneOf(9))[:0]} {
				for role := range 3 {
					n := impl.Node{Id: 2, Term: 1, Role: role, Conf: numbers(2), Log: impl.Log{Entries: list}, Limit: 1, Votes: votes, Peers: peers}
					wantNode(t, "empty lists", n, true)
					wantOutcome(t, "empty lists", n, ticked(n, 1), plainTick(n, 1))
					m := impl.Message{Kind: 3, From: 1, To: 2, Term: 1, Entries: list, Conf: votes}
					wantOutcome(t, "empty lists", n, received(n, m), plainReceive(n, m))
					wantOutcome(t, "empty lists", n, proposed(n, 1, ""), plainPropose(n, 1, ""))
					wantOutcome(t, "empty lists", n, settled(n, 0), plainSettle(n, 0))
				}
			}
		}
	}
	for _, conf := range noNumbers {
		if _, ok := impl.NodeNew(1, conf); ok {
			t.Error("a node without a conf")
		}
	}
}

func TestManyNodesAtOnce(t *testing.T) {
	var all sync.WaitGroup
	d := &drawing{state: 88}
	var nodes []impl.Node
	var messages []impl.Message
	for range 60 {
		n := drawnNode(d)
		nodes, messages = append(nodes, n), append(messages, drawnTo(d, n))
	}
	for range 8 {
		all.Add(1)
		go func() {
			defer all.Done()
			for at, n := range nodes {
				wantOutcome(t, "at once", n, ticked(n, 4), plainTick(n, 4))
				wantOutcome(t, "at once", n, received(n, messages[at]), plainReceive(n, messages[at]))
				wantOutcome(t, "at once", n, proposed(n, 3, "x"), plainPropose(n, 3, "x"))
				wantOutcome(t, "at once", n, settled(n, n.Commit), plainSettle(n, n.Commit))
			}
		}()
	}
	all.Wait()
}
