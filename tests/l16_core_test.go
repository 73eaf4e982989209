package tests

import (
	"fmt"
	"math"
	"slices"
	"testing"

	"loop.example/g00103/impl"
)

// outcome is what a step of a node answers; the index is Propose's alone.
type outcome struct {
	node  impl.Node
	told  []impl.Message
	index int
	ok    bool
}

func ticked(n impl.Node, limit int) outcome {
	node, told, ok := impl.Tick(n, limit)
	return outcome{node, told, 0, ok}
}

func received(n impl.Node, m impl.Message) outcome {
	node, told, ok := impl.Receive(n, m)
	return outcome{node, told, 0, ok}
}

func proposed(n impl.Node, kind int, data string) outcome {
	node, told, index, ok := impl.Propose(n, kind, data)
	return outcome{node, told, index, ok}
}

func settled(n impl.Node, index int) outcome {
	node, ok := impl.Settle(n, index)
	return outcome{node, nil, 0, ok}
}

func sameNode(a, b impl.Node) bool {
	return a.Id == b.Id && a.Term == b.Term && a.Vote == b.Vote && a.Role == b.Role && a.Lead == b.Lead &&
		slices.Equal(a.Conf, b.Conf) && sameLog(a.Log, b.Log) && a.Commit == b.Commit &&
		a.Clock == b.Clock && a.Limit == b.Limit && slices.Equal(a.Votes, b.Votes) && slices.Equal(a.Peers, b.Peers)
}

func sameOutcome(a, b outcome) bool {
	return sameNode(a.node, b.node) && slices.EqualFunc(a.told, b.told, sameMessage) && a.index == b.index && a.ok == b.ok
}

// shortNode tells a node without the whole of its log.
func shortNode(n impl.Node) string {
	return fmt.Sprintf("{id %d term %d vote %d role %d lead %d conf %v log %s commit %d clock %d limit %d votes %v peers %v}",
		n.Id, n.Term, n.Vote, n.Role, n.Lead, n.Conf[:min(9, len(n.Conf))], shortLog(n.Log), n.Commit, n.Clock, n.Limit,
		n.Votes[:min(9, len(n.Votes))], n.Peers[:min(9, len(n.Peers))])
}

func shortOutcome(o outcome) string {
	text := fmt.Sprint(shortNode(o.node), " ", o.index, " ", o.ok)
	for _, m := range o.told {
		text += "\n\t" + shortMessage(m)
	}
	return text
}

// nodeWith is a copy of the node behind a change.
func nodeWith(n impl.Node, change func(n *impl.Node)) impl.Node {
	n = cloneNode(n)
	change(&n)
	return n
}

func cloneNode(n impl.Node) impl.Node {
	n.Conf, n.Votes, n.Peers = slices.Clone(n.Conf), slices.Clone(n.Votes), slices.Clone(n.Peers)
	n.Log.Entries = slices.Clone(n.Log.Entries)
	return n
}

// coreLog has the terms 1 1 3 4 of the indexes 3 to 6; the index 5 is a conf of
// the first three nodes.
func coreLog() impl.Log {
	return logOf(2, 1, noneOf(1), commandOf(1, "x"), confOf(3, "\x01\x02\x03"), commandOf(4, "y"))
}

func followNode() impl.Node {
	return impl.Node{Id: 1, Term: 5, Lead: 2, Conf: numbers(1, 2), Log: coreLog(), Commit: 4, Clock: 3, Limit: 7}
}

func standNode() impl.Node {
	return nodeWith(followNode(), func(n *impl.Node) {
		n.Vote, n.Role, n.Lead, n.Votes = 1, impl.RoleStand, 0, numbers(1)
	})
}

// leadNode has two entries of its own Term behind coreLog.
func leadNode() impl.Node {
	return nodeWith(followNode(), func(n *impl.Node) {
		n.Vote, n.Role, n.Lead = 1, impl.RoleLead, 1
		n.Log.Entries = append(n.Log.Entries, noneOf(5), commandOf(5, "z"))
		n.Peers = []impl.Peer{{Id: 2, Next: 9, Match: 6}, {Id: 3, Next: 5, Match: 3, Sent: 9}}
	})
}

// ofEachRole are ordinary nodes, by Role.
func ofEachRole() map[int]impl.Node {
	return map[int]impl.Node{0: followNode(), 1: standNode(), 2: leadNode()}
}

// aloneNode leads nobody but itself, and is not in the midst of anything.
func aloneNode() impl.Node {
	return impl.Node{Id: 3, Term: 2, Vote: 3, Role: 2, Lead: 3, Conf: numbers(3), Log: logOf(0, 0, noneOf(2)), Commit: 1, Limit: 20}
}

// plainConfUpTo looks at each index that the log has, as long as an int holds it.
func plainConfUpTo(n impl.Node, index int) []int {
	conf := n.Conf
	for at, e := range n.Log.Entries {
		own := n.Log.Start + 1 + at
		if e.Kind == 2 && own > n.Log.Start && own <= index {
			conf, _ = plainReadConf(e.Data)
		}
	}
	return slices.Clone(conf)
}

func plainConfNow(n impl.Node) []int { return plainConfUpTo(n, math.MaxInt) }

func plainLast(l impl.Log) (int, int) {
	if len(l.Entries) == 0 {
		return l.Start, l.StartTerm
	}
	return l.Start + len(l.Entries), l.Entries[len(l.Entries)-1].Term
}

// without is the list but this number.
func without(list []int, number int) []int {
	var rest []int
	for _, n := range list {
		if n != number {
			rest = append(rest, n)
		}
	}
	return rest
}

func among(number, least, most int) bool { return number >= least && number <= most }

// plainNodeOk is the document's rule, word by word.
func plainNodeOk(n impl.Node) bool {
	if !among(n.Id, 1, 4) || !plainConfOk(n.Conf) || !plainLogOk(n.Log) {
		return false
	}
	last, lastTerm := plainLast(n.Log)
	if !among(n.Term, 0, 100000) || n.Term < lastTerm || !among(n.Vote, 0, 4) || !among(n.Lead, 0, 4) || !among(n.Role, 0, 2) {
		return false
	}
	if !among(n.Commit, n.Log.Start, last) || !among(n.Clock, 0, 20) || !among(n.Limit, 1, 20) {
		return false
	}
	if len(n.Votes) > 0 && (n.Role != 1 || !plainConfOk(n.Votes)) {
		return false
	}
	if n.Role != 2 {
		return len(n.Peers) == 0
	}
	var ids []int
	for _, p := range n.Peers {
		ids = append(ids, p.Id)
		if !among(p.Next, 1, last+1) || p.Match >= p.Next || p.Match < 0 || !among(p.Sent, 0, 20000) {
			return false
		}
	}
	return slices.Equal(ids, without(plainConfNow(n), n.Id))
}

// plainSend is *send* to one peer.
func plainSend(n impl.Node, p impl.Peer) impl.Message {
	m := impl.Message{From: n.Id, To: p.Id, Term: n.Term}
	if p.Next <= n.Log.Start {
		m.Kind, m.Index, m.LogTerm, m.Conf, m.Commit = 5, n.Log.Start, n.Log.StartTerm, n.Conf, p.Sent
		return m
	}
	m.Kind, m.Index, m.LogTerm, m.Commit = 3, p.Next-1, plainLogTerm(n.Log, p.Next-1), n.Commit
	for at, e := range n.Log.Entries {
		if own := n.Log.Start + 1 + at; own >= p.Next && len(m.Entries) < 4 {
			m.Entries = append(m.Entries, e)
		}
	}
	return m
}

func plainSendAll(n impl.Node) []impl.Message {
	var told []impl.Message
	for _, p := range n.Peers {
		told = append(told, plainSend(n, p))
	}
	return told
}

// plainCommit is *commit*: it tries each index.
func plainCommit(n impl.Node) impl.Node {
	conf := plainConfNow(n)
	last, _ := plainLast(n.Log)
	commit, lastConf := n.Commit, 0
	for index := n.Log.Start + 1; index <= last; index++ {
		if n.Log.Entries[index-n.Log.Start-1].Kind == 2 {
			lastConf = index
		}
		list := numbers(n.Id)
		for _, p := range n.Peers {
			if p.Match >= index {
				list = append(list, p.Id)
			}
		}
		if index > n.Commit && plainLogTerm(n.Log, index) == n.Term && plainMost(conf, list) {
			commit = index
		}
	}
	n.Commit = commit
	if !slices.Contains(conf, n.Id) && lastConf <= commit {
		n.Role, n.Lead, n.Peers = 0, 0, nil
	}
	return n
}

// plainLead is *lead*.
func plainLead(n impl.Node) (impl.Node, []impl.Message) {
	last, _ := plainLast(n.Log)
	n.Role, n.Lead, n.Votes = 2, n.Id, nil
	if len(n.Log.Entries) < 120 && last+1 <= 100000 {
		n.Log.Entries = append(slices.Clone(n.Log.Entries), noneOf(n.Term))
	}
	for _, id := range without(plainConfNow(n), n.Id) {
		n.Peers = append(n.Peers, impl.Peer{Id: id, Next: last + 1})
	}
	n = plainCommit(n)
	return n, plainSendAll(n)
}

func plainTick(n impl.Node, limit int) outcome {
	if !plainNodeOk(n) || !among(limit, 1, 20) {
		return outcome{}
	}
	n = cloneNode(n)
	if n.Role == 2 {
		return outcome{n, plainSendAll(n), 0, true}
	}
	n.Clock++
	if n.Clock < n.Limit {
		return outcome{n, nil, 0, true}
	}
	n.Clock, n.Limit = 0, limit
	conf := plainConfNow(n)
	if !slices.Contains(conf, n.Id) || n.Term == 100000 {
		return outcome{n, nil, 0, true}
	}
	n.Term, n.Vote, n.Role, n.Lead, n.Votes = n.Term+1, n.Id, 1, 0, numbers(n.Id)
	var told []impl.Message
	if plainMost(conf, n.Votes) {
		n, told = plainLead(n)
		return outcome{n, told, 0, true}
	}
	index, term := plainLast(n.Log)
	for _, id := range without(conf, n.Id) {
		told = append(told, impl.Message{Kind: 1, From: n.Id, To: id, Term: n.Term, Index: index, LogTerm: term})
	}
	return outcome{n, told, 0, true}
}

func plainReceive(n impl.Node, m impl.Message) outcome {
	if !plainNodeOk(n) || !plainMessageOk(m) || m.To != n.Id {
		return outcome{}
	}
	n = cloneNode(n)
	if m.Term > n.Term {
		n.Term, n.Vote, n.Role, n.Lead, n.Votes, n.Peers = m.Term, 0, 0, 0, nil, nil
	}
	var told []impl.Message
	switch m.Kind {
	case 1:
		n, told = plainAskVote(n, m)
	case 2:
		if m.Ok && m.Term == n.Term && n.Role == 1 {
			n.Votes = append(without(n.Votes, m.From), m.From)
			slices.Sort(n.Votes)
			if plainMost(plainConfNow(n), n.Votes) {
				n, told = plainLead(n)
			}
		}
	case 3:
		n, told = plainAskAppend(n, m)
	case 4, 6:
		n, told = plainTold(n, m)
	case 5:
		if m.Term == n.Term {
			n.Role, n.Lead, n.Clock, n.Votes, n.Peers = 0, m.From, 0, nil, nil
		}
	}
	return outcome{n, told, 0, true}
}

func plainAskVote(n impl.Node, m impl.Message) (impl.Node, []impl.Message) {
	index, term := plainLast(n.Log)
	atLeast := m.LogTerm > term || m.LogTerm == term && m.Index >= index
	ok := m.Term == n.Term && (n.Vote == 0 || n.Vote == m.From) && atLeast
	if ok {
		n.Vote, n.Clock = m.From, 0
	}
	return n, []impl.Message{{Kind: 2, From: n.Id, To: m.From, Term: n.Term, Ok: ok}}
}

func plainAskAppend(n impl.Node, m impl.Message) (impl.Node, []impl.Message) {
	tell := func(ok bool, index int) (impl.Node, []impl.Message) {
		return n, []impl.Message{{Kind: 4, From: n.Id, To: m.From, Term: n.Term, Ok: ok, Index: index}}
	}
	if m.Term < n.Term {
		return tell(false, 0)
	}
	n.Role, n.Lead, n.Clock, n.Votes, n.Peers = 0, m.From, 0, nil, nil
	last, _ := plainLast(n.Log)
	index, term, list := m.Index, m.LogTerm, m.Entries
	if index < n.Log.Start {
		for ; index < n.Log.Start; index++ {
			if len(list) > 0 {
				list = list[1:]
			}
		}
		term = n.Log.StartTerm
	}
	if term != plainLogTerm(n.Log, index) {
		return tell(false, min(max(index-1, 0), last))
	}
	now, least := n.Log, 1<<40
	for at, e := range list {
		if own := index + 1 + at; least == 1<<40 && plainLogTerm(n.Log, own) != e.Term {
			least = own
			now.Entries = slices.Concat(n.Log.Entries[:own-1-n.Log.Start], list[at:])
		}
	}
	if least <= n.Commit || !plainLogOk(now) {
		return tell(false, last)
	}
	n.Log = now
	n.Commit = max(n.Commit, min(m.Commit, index+len(list)))
	return tell(true, index+len(list))
}

// plainTold is of TellAppend and TellInstall.
func plainTold(n impl.Node, m impl.Message) (impl.Node, []impl.Message) {
	at := slices.IndexFunc(n.Peers, func(p impl.Peer) bool { return p.Id == m.From })
	if m.Term != n.Term || n.Role != 2 || at < 0 {
		return n, nil
	}
	last, _ := plainLast(n.Log)
	p := n.Peers[at]
	if m.Ok {
		p.Match = max(p.Match, min(m.Index, last))
		p.Next = p.Match + 1
	} else if next := max(m.Index+1, p.Match+1); m.Kind == 4 && next < p.Next {
		p.Next = next
	}
	if m.Kind == 6 {
		p.Sent = 0
		// Above 20000 the node would not stay right.
		if !m.Ok && m.Index == n.Log.Start && m.Commit <= 20000 {
			p.Sent = m.Commit
		}
	}
	n.Peers[at] = p
	if !m.Ok {
		return n, []impl.Message{plainSend(n, p)}
	}
	n = plainCommit(n)
	if n.Role == 2 && p.Next <= last {
		return n, []impl.Message{plainSend(n, p)}
	}
	return n, nil
}

// plainOneApart tells whether one of two confs is the other one with one more.
func plainOneApart(a, b []int) bool {
	count := map[int]int{}
	for _, id := range a {
		count[id]++
	}
	for _, id := range b {
		count[id]--
	}
	apart := 0
	for _, n := range count {
		apart += n * n
	}
	return apart == 1
}

func plainPropose(n impl.Node, kind int, data string) outcome {
	e := entryOf(n.Term, kind, data)
	if !plainNodeOk(n) || n.Role != 2 || !plainEntryOk(e) {
		return outcome{}
	}
	last, _ := plainLast(n.Log)
	if len(n.Log.Entries) == 120 || last == 100000 {
		return outcome{}
	}
	old := n
	n = cloneNode(n)
	n.Log.Entries = append(n.Log.Entries, e)
	if kind == 2 {
		for _, behind := range old.Log.Entries[old.Commit-old.Log.Start:] {
			if behind.Kind == 2 {
				return outcome{}
			}
		}
		if plainLogTerm(old.Log, old.Commit) != old.Term || !plainOneApart(plainConfNow(old), plainConfNow(n)) {
			return outcome{}
		}
		n.Peers = nil
		for _, id := range without(plainConfNow(n), n.Id) {
			p := impl.Peer{Id: id, Next: last + 1}
			for _, was := range old.Peers {
				if was.Id == id {
					p = was
				}
			}
			n.Peers = append(n.Peers, p)
		}
	}
	n = plainCommit(n)
	return outcome{n, plainSendAll(n), last + 1, true}
}

func plainSettle(n impl.Node, index int) outcome {
	if !plainNodeOk(n) || !among(index, n.Log.Start, n.Commit) {
		return outcome{}
	}
	n = cloneNode(n)
	conf := plainConfUpTo(n, index)
	n.Log = plainLogBehind(n.Log, index, plainLogTerm(n.Log, index))
	n.Conf = conf
	return outcome{n, nil, 0, true}
}

// wantSound holds what a step leaves against the promises: the node is right,
// its Term and its Commit don't fall, it votes for one in one Term, and has what
// was committed; what it tells is right, and its own.
func wantSound(t *testing.T, why string, n impl.Node, o outcome) {
	t.Helper()
	if !o.ok {
		if !sameOutcome(o, outcome{}) {
			t.Errorf("%s: %s beside a false", why, shortOutcome(o))
		}
		return
	}
	if !impl.NodeOk(o.node) || !plainNodeOk(o.node) {
		t.Errorf("%s: %s is not right any more: %s", why, shortNode(n), shortNode(o.node))
		return
	}
	if o.node.Id != n.Id || o.node.Term < n.Term || o.node.Commit < n.Commit {
		t.Errorf("%s: %s is another, or fell: %s", why, shortNode(n), shortNode(o.node))
	}
	if o.node.Term == n.Term && n.Vote != 0 && o.node.Vote != n.Vote {
		t.Errorf("%s: in one Term %s votes for another: %s", why, shortNode(n), shortNode(o.node))
	}
	for index := o.node.Log.Start + 1; index <= n.Commit; index++ {
		if o.node.Log.Entries[index-o.node.Log.Start-1] != n.Log.Entries[index-n.Log.Start-1] {
			t.Errorf("%s: the committed index %d of %s is gone: %s", why, index, shortNode(n), shortNode(o.node))
		}
	}
	for _, m := range o.told {
		if !impl.MessageOk(m) || m.From != n.Id || m.Term != o.node.Term {
			t.Errorf("%s: %s tells %s", why, shortNode(o.node), shortMessage(m))
		}
	}
}

func wantOutcome(t *testing.T, why string, n impl.Node, got, plain outcome) {
	t.Helper()
	if !sameOutcome(got, plain) {
		t.Errorf("%s: of %s\ncomes %s\nwant %s", why, shortNode(n), shortOutcome(got), shortOutcome(plain))
	}
	wantSound(t, why, n, got)
}

// wantByHand holds an answer, and the plain rule's, against what is written out.
func wantByHand(t *testing.T, why string, n impl.Node, got, plain, want outcome) {
	t.Helper()
	if !sameOutcome(plain, want) {
		t.Errorf("%s: the plain rule tells of %s\n%s\nwant %s", why, shortNode(n), shortOutcome(plain), shortOutcome(want))
	}
	wantOutcome(t, why, n, got, want)
}

func wantTick(t *testing.T, why string, n impl.Node, limit int, want impl.Node, told ...impl.Message) {
	t.Helper()
	wantByHand(t, why, n, ticked(n, limit), plainTick(n, limit), outcome{want, told, 0, true})
}

func wantNoTick(t *testing.T, why string, n impl.Node, limit int) {
	t.Helper()
	wantByHand(t, why, n, ticked(n, limit), plainTick(n, limit), outcome{})
}

func wantReceive(t *testing.T, why string, n impl.Node, m impl.Message, want impl.Node, told ...impl.Message) {
	t.Helper()
	wantByHand(t, why+": "+shortMessage(m), n, received(n, m), plainReceive(n, m), outcome{want, told, 0, true})
}

func wantNoReceive(t *testing.T, why string, n impl.Node, m impl.Message) {
	t.Helper()
	wantByHand(t, why+": "+shortMessage(m), n, received(n, m), plainReceive(n, m), outcome{})
}

func wantPropose(t *testing.T, why string, n impl.Node, kind int, data string, index int, want impl.Node, told ...impl.Message) {
	t.Helper()
	wantByHand(t, why, n, proposed(n, kind, data), plainPropose(n, kind, data), outcome{want, told, index, true})
}

func wantNoPropose(t *testing.T, why string, n impl.Node, kind int, data string) {
	t.Helper()
	wantByHand(t, why, n, proposed(n, kind, data), plainPropose(n, kind, data), outcome{})
}

func wantSettle(t *testing.T, why string, n impl.Node, index int, want impl.Node) {
	t.Helper()
	wantByHand(t, why, n, settled(n, index), plainSettle(n, index), outcome{node: want, ok: true})
}

func wantNoSettle(t *testing.T, why string, n impl.Node, index int) {
	t.Helper()
	wantByHand(t, why, n, settled(n, index), plainSettle(n, index), outcome{})
}

// wantNode holds NodeOk against the plain rule; each step of a node that is not
// right is false.
func wantNode(t *testing.T, why string, n impl.Node, ok bool) {
	t.Helper()
	if plainNodeOk(n) != ok {
		t.Errorf("%s: the plain rule tells %v of %s", why, !ok, shortNode(n))
	}
	if got := impl.NodeOk(n); got != ok {
		t.Errorf("%s: NodeOk(%s) = %v", why, shortNode(n), got)
	}
	if ok {
		return
	}
	m := impl.Message{Kind: 1, From: 1 + n.Id%4, To: n.Id, Term: 5}
	for step, o := range map[string]outcome{
		"Tick":    ticked(n, 1),
		"Receive": received(n, m),
		"Propose": proposed(n, 1, ""),
		"Settle":  settled(n, n.Log.Start),
	} {
		if !sameOutcome(o, outcome{}) {
			t.Errorf("%s: %s of %s: %s", why, step, shortNode(n), shortOutcome(o))
		}
	}
}

func TestCoreConstants(t *testing.T) {
	if impl.MaxLimit != 20 || impl.RoleFollow != 0 || impl.RoleStand != 1 || impl.RoleLead != 2 {
		t.Error("a constant of the core is not the document's")
	}
}

func TestOrdinaryNodesAreRight(t *testing.T) {
	for role, n := range ofEachRole() {
		wantNode(t, fmt.Sprint("Role ", role), n, true)
	}
	wantNode(t, "alone", aloneNode(), true)
	wantNode(t, "zero", impl.Node{}, false)
	wantNode(t, "the least", impl.Node{Id: 1, Conf: numbers(1), Limit: 1}, true)
	wantNode(t, "the greatest", impl.Node{
		Id: 4, Term: 100000, Vote: 4, Role: 2, Lead: 4, Conf: numbers(1, 2, 3, 4), Log: logOfMany(99880, 100000, 120),
		Commit: 100000, Clock: 20, Limit: 20, Peers: []impl.Peer{
			{Id: 1, Next: 100001, Match: 100000, Sent: 20000},
			{Id: 2, Next: 100001, Match: 100000, Sent: 20000},
			{Id: 3, Next: 100001, Match: 100000, Sent: 20000}}}, true)
}

func TestNumbersOfNodesAtTheirLimits(t *testing.T) {
	fields := map[string]struct {
		field       func(n *impl.Node) *int
		least, most int
	}{
		"Id":     {func(n *impl.Node) *int { return &n.Id }, 1, 4},
		"Vote":   {func(n *impl.Node) *int { return &n.Vote }, 0, 4},
		"Lead":   {func(n *impl.Node) *int { return &n.Lead }, 0, 4},
		"Clock":  {func(n *impl.Node) *int { return &n.Clock }, 0, 20},
		"Limit":  {func(n *impl.Node) *int { return &n.Limit }, 1, 20},
		"Term":   {func(n *impl.Node) *int { return &n.Term }, 4, 100000},
		"Commit": {func(n *impl.Node) *int { return &n.Commit }, 2, 6},
	}
	for name, f := range fields {
		tries := append(farNumbers(), 0, 1, 2, 3, 4, 5, 6, 7, 8, 9, 19, 20, 21, 22, 99999, 100000, 100001, 100002)
		for role, n := range ofEachRole() {
			if name == "Id" && role == 2 {
				continue
			}
			least, most := f.least, f.most
			if role == 2 && name == "Term" {
				least = 5
			}
			if role == 2 && name == "Commit" {
				most = 8
			}
			for _, number := range tries {
				tried := nodeWith(n, func(n *impl.Node) { *f.field(n) = number })
				wantNode(t, fmt.Sprint(name, " ", number), tried, number >= least && number <= most)
			}
		}
	}
}

func TestRolesOfNodes(t *testing.T) {
	for role, n := range ofEachRole() {
		for _, other := range append(farNumbers(), -2, 0, 1, 2, 3, 4) {
			tried := nodeWith(n, func(n *impl.Node) { n.Role = other })
			// A node without votes or peers may follow or stand.
			wantNode(t, fmt.Sprint("Role ", other), tried, other == role || role == 0 && other == 1)
		}
	}
	for _, other := range append(farNumbers(), 3) {
		alone := nodeWith(aloneNode(), func(n *impl.Node) { n.Role = other })
		wantNode(t, "alone, no Role", alone, false)
	}
	for role := range 3 {
		alone := nodeWith(aloneNode(), func(n *impl.Node) { n.Role = role })
		wantNode(t, "alone, each Role", alone, true)
	}
}

func TestTermsOfNodesAgainstTheirLogs(t *testing.T) {
	for _, c := range []struct {
		l           impl.Log
		least, most int
	}{
		{logOf(0, 0), 0, 100000},
		{logOf(7, 3), 3, 100000},
		{logOf(7, 3, noneOf(3)), 3, 100000},
		{logOf(7, 3, noneOf(4), noneOf(9)), 9, 100000},
		{logOf(7, 99999), 99999, 100000},
		{logOf(7, 100000), 100000, 100000},
		{logOf(7, 0, noneOf(100000)), 100000, 100000},
	} {
		for _, term := range append(farNumbers(), 0, 1, 2, 3, 4, 8, 9, 10, 99998, 99999, 100000, 100001) {
			n := impl.Node{Id: 2, Term: term, Conf: numbers(1, 2), Log: c.l, Commit: c.l.Start, Limit: 3}
			wantNode(t, "Term", n, term >= c.least && term <= c.most)
		}
	}
}

func TestCommitsOfNodesAgainstTheirLogs(t *testing.T) {
	for _, l := range []impl.Log{logOf(0, 0), logOf(7, 3), logOfMany(0, 1, 1), logOfMany(7, 3, 5), logOfMany(99880, 3, 120), logOf(100000, 3)} {
		last := l.Start + len(l.Entries)
		for _, commit := range append(farNumbers(), l.Start-2, l.Start-1, l.Start, l.Start+1, last-1, last, last+1, last+2) {
			n := impl.Node{Id: 2, Term: 3, Conf: numbers(1, 2), Log: l, Commit: commit, Limit: 3}
			wantNode(t, "Commit", n, commit >= l.Start && commit <= last)
		}
	}
}

func TestVotesOfNodes(t *testing.T) {
	right := 0
	for _, votes := range listsOf(5, 0, 1, 2, 3, 4, 5) {
		n := nodeWith(standNode(), func(n *impl.Node) { n.Votes = votes })
		ok := len(votes) == 0 || plainConfOk(votes)
		wantNode(t, "Votes", n, ok)
		if ok {
			right++
		}
		if len(votes) > 2 {
			continue
		}
		for _, role := range numbers(0, 2) {
			other := nodeWith(ofEachRole()[role], func(n *impl.Node) { n.Votes = votes })
			wantNode(t, "Votes of another Role", other, len(votes) == 0)
		}
	}
	if right != 16 {
		t.Errorf("%d lists of votes are right", right)
	}
	for _, votes := range [][]int{{-1}, {-1, 1}, {1, 1}, {2, 1}, {1, 2, 2}, {1, 3, 2}, {1, 2, 3, 4, 4}, {math.MinInt}, {math.MaxInt}, {1, math.MaxInt}, {math.MinInt, 1}, make([]int, 100000)} {
		wantNode(t, "odd Votes", nodeWith(standNode(), func(n *impl.Node) { n.Votes = votes }), false)
	}
}

// peersOf has ordinary numbers for each Id.
func peersOf(ids ...int) []impl.Peer {
	var list []impl.Peer
	for _, id := range ids {
		list = append(list, impl.Peer{Id: id, Next: 2, Match: 1, Sent: 3})
	}
	return list
}

func TestPeersOfNodes(t *testing.T) {
	for _, conf := range rightConfs() {
		text, _ := plainConfText(conf)
		for id := 1; id <= 4; id++ {
			for _, ids := range listsOf(3, 0, 1, 2, 3, 4, 5) {
				ok := slices.Equal(ids, without(conf, id))
				n := impl.Node{Id: id, Term: 2, Role: 2, Conf: conf, Log: logOf(0, 0, noneOf(2)), Commit: 1, Limit: 1, Peers: peersOf(ids...)}
				wantNode(t, "Peers of Conf", n, ok)
				n.Conf = numbers(1, 2, 3, 4)
				n.Log.Entries = entries(confOf(1, "\x02\x03"), confOf(2, text))
				wantNode(t, "Peers of the last EntryConf", n, ok)
			}
		}
	}
}

func TestPeersOfOtherRoles(t *testing.T) {
	for _, role := range numbers(0, 1) {
		for _, peers := range [][]impl.Peer{peersOf(2, 3), peersOf(2), peersOf(1), peersOf(0), {{}}, leadNode().Peers} {
			n := nodeWith(ofEachRole()[role], func(n *impl.Node) { n.Peers = peers })
			wantNode(t, "Peers", n, false)
		}
		for _, peers := range [][]impl.Peer{nil, {}, peersOf(2)[:0]} {
			n := nodeWith(ofEachRole()[role], func(n *impl.Node) { n.Peers = peers })
			wantNode(t, "no Peers", n, true)
		}
	}
}

func TestOddPeersOfANode(t *testing.T) {
	for why, ids := range map[string][]int{
		"none":                 nil,
		"one is missing":       {2},
		"the other is missing": {3},
		"the node itself":      {1, 2, 3},
		"the node itself last": {2, 3, 1},
		"one that is not in":   {2, 3, 4},
		"another one":          {2, 4},
		"the other way":        {3, 2},
		"one twice":            {2, 2},
		"one twice, and all":   {2, 2, 3},
		"no Id":                {0, 2, 3},
		"Id -1":                {-1, 2, 3},
		"Id 5":                 {2, 3, 5},
		"Ids far off":          {math.MinInt, math.MaxInt},
		"many":                 make([]int, 100000),
	} {
		wantNode(t, why, nodeWith(leadNode(), func(n *impl.Node) { n.Peers = peersOf(ids...) }), false)
	}
	wantNode(t, "both", nodeWith(leadNode(), func(n *impl.Node) { n.Peers = peersOf(2, 3) }), true)
	// The conf that holds counts, not the one of the log's beginning.
	wantNode(t, "of Conf alone", nodeWith(leadNode(), func(n *impl.Node) { n.Conf, n.Peers = numbers(1, 4), peersOf(4) }), false)
	wantNode(t, "another Conf", nodeWith(leadNode(), func(n *impl.Node) { n.Conf = numbers(4) }), true)
	// One that leads and is not in ConfOf has all of it.
	wantNode(t, "not in ConfOf", nodeWith(leadNode(), func(n *impl.Node) { n.Id, n.Peers = 4, peersOf(1, 2, 3) }), true)
	wantNode(t, "not in ConfOf, one missing", nodeWith(leadNode(), func(n *impl.Node) { n.Id, n.Peers = 4, peersOf(2, 3) }), false)
}

func TestNumbersOfPeers(t *testing.T) {
	far := append(farNumbers(), 0, 1, 2, 3, 4, 5, 6, 7, 8, 9, 10, 11)
	for at := range 2 {
		for _, next := range far {
			for _, match := range append(far, next-1, next, next+1) {
				n := nodeWith(leadNode(), func(n *impl.Node) { n.Peers[at].Next, n.Peers[at].Match = next, match })
				wantNode(t, "Next and Match", n, next >= 1 && next <= 9 && match >= 0 && match < next)
			}
		}
		for _, sent := range append(far, 19999, 20000, 20001, 20002, 100000) {
			n := nodeWith(leadNode(), func(n *impl.Node) { n.Peers[at].Sent = sent })
			wantNode(t, "Sent", n, sent >= 0 && sent <= 20000)
		}
	}
	// Without entries Next goes up to Start + 1.
	for next := -1; next < 12; next++ {
		n := impl.Node{Id: 1, Term: 1, Role: 2, Conf: numbers(1, 2), Log: logOf(7, 1), Commit: 7, Limit: 1, Peers: []impl.Peer{{Id: 2, Next: next}}}
		wantNode(t, "Next without entries", n, next >= 1 && next <= 8)
	}
}

func TestConfsAndLogsOfNodes(t *testing.T) {
	for _, conf := range listsOf(5, 0, 1, 2, 3, 4, 5) {
		ok := plainConfOk(conf)
		wantNode(t, "Conf", nodeWith(followNode(), func(n *impl.Node) { n.Conf = conf }), ok)
		if len(conf) < 4 {
			wantNode(t, "Conf of one that leads", nodeWith(leadNode(), func(n *impl.Node) { n.Conf = conf }), ok)
		}
	}
	for why, l := range rightLogs() {
		for id := 1; id <= 4; id++ {
			n := impl.Node{Id: id, Term: 100000, Conf: numbers(1, 2), Log: l, Commit: l.Start, Limit: 3}
			wantNode(t, why, n, true)
		}
	}
	for why, l := range wrongLogs() {
		for role, n := range ofEachRole() {
			// Whatever else stands beside it.
			for _, commit := range numbers(0, 3, l.Start, l.Start+len(l.Entries)) {
				wrong := nodeWith(n, func(n *impl.Node) { n.Log, n.Term, n.Commit = l, 100000, commit })
				wantNode(t, fmt.Sprint(why, ", Role ", role), wrong, false)
			}
		}
	}
}

func wantConfs(t *testing.T, why string, n impl.Node, index int, want []int) {
	t.Helper()
	if got := impl.ConfAt(n, index); !slices.Equal(got, want) {
		t.Errorf("%s: ConfAt(%s, %d) = %v; want %v", why, shortNode(n), index, got, want)
	}
}

func TestConfOfAndConfAtByHand(t *testing.T) {
	none := impl.Node{Conf: numbers(1, 2), Log: logOf(2, 1, noneOf(1), commandOf(1, "\x03"))}
	one := impl.Node{Conf: numbers(1, 2), Log: coreLog()}
	many := impl.Node{Conf: numbers(2), Log: logOf(4, 1, confOf(1, "\x02\x03"), noneOf(1), confOf(1, "\x03"), commandOf(2, "\x04"), confOf(2, "\x03\x04"), noneOf(3))}
	for _, c := range []struct {
		why  string
		n    impl.Node
		now  []int
		each map[int][]int
	}{
		{"none", none, numbers(1, 2), map[int][]int{-1: {1, 2}, 0: {1, 2}, 2: {1, 2}, 3: {1, 2}, 4: {1, 2}, 5: {1, 2}, 9: {1, 2}}},
		{"one", one, numbers(1, 2, 3), map[int][]int{0: {1, 2}, 2: {1, 2}, 3: {1, 2}, 4: {1, 2}, 5: {1, 2, 3}, 6: {1, 2, 3}, 7: {1, 2, 3}, 100001: {1, 2, 3}}},
		{"several", many, numbers(3, 4), map[int][]int{-5: {2}, 3: {2}, 4: {2}, 5: {2, 3}, 6: {2, 3}, 7: {3}, 8: {3}, 9: {3, 4}, 10: {3, 4}, 11: {3, 4}}},
		{"no entries", impl.Node{Conf: numbers(4), Log: logOf(9, 1)}, numbers(4), map[int][]int{8: {4}, 9: {4}, 10: {4}}},
	} {
		if got := impl.ConfOf(c.n); !slices.Equal(got, c.now) {
			t.Errorf("%s: ConfOf = %v; want %v", c.why, got, c.now)
		}
		for index, want := range c.each {
			wantConfs(t, c.why, c.n, index, want)
		}
		wantConfs(t, c.why, c.n, math.MinInt, c.n.Conf)
		wantConfs(t, c.why, c.n, math.MaxInt, c.now)
		for index := -20; index < 30; index++ {
			wantConfs(t, c.why, c.n, index, plainConfUpTo(c.n, index))
		}
	}
}

func TestConfAtOfEachIndex(t *testing.T) {
	d := &drawing{state: 80}
	for range 300 {
		n := drawnNode(d)
		if got, want := impl.ConfOf(n), plainConfNow(n); !slices.Equal(got, want) {
			t.Errorf("ConfOf(%s) = %v; want %v", shortNode(n), got, want)
		}
		for index := n.Log.Start - 3; index < n.Log.Start+len(n.Log.Entries)+4; index++ {
			wantConfs(t, "drawn", n, index, plainConfUpTo(n, index))
		}
	}
}

// Of nodes that are not right the same words are said.
func TestConfsOfWrongNodes(t *testing.T) {
	const least, most = math.MinInt, math.MaxInt
	two := entries(confOf(5, "\x02"), confOf(6, "\x03"))
	for _, c := range []struct {
		start, index int
		want         []int
	}{
		{most, least, numbers(1)},
		{most, 0, numbers(1)},
		{most, most, numbers(1)},
		{most - 1, most - 1, numbers(1)},
		{most - 1, most, numbers(2)},
		{most - 1, least, numbers(1)},
		{most - 2, most, numbers(3)},
		{most - 2, most - 1, numbers(2)},
		{least, least, numbers(1)},
		{least, least + 1, numbers(2)},
		{least, least + 2, numbers(3)},
		{least, 0, numbers(3)},
		{least, most, numbers(3)},
		{-1, -1, numbers(1)},
		{-1, 0, numbers(2)},
		{-1, 1, numbers(3)},
		{-5, most, numbers(3)},
		{5, least, numbers(1)},
	} {
		n := impl.Node{Conf: numbers(1), Log: logOf(c.start, 3, two...)}
		wantConfs(t, "far off", n, c.index, c.want)
		if got := impl.ConfOf(n); !slices.Equal(got, numbers(3)) {
			t.Errorf("ConfOf(%s) = %v", shortNode(n), got)
		}
	}
	odd := impl.Node{Conf: numbers(9, 9, -1), Log: logOf(3, 1, entryOf(-1, 7, "\x01"), entryOf(-1, 0, "\x01"))}
	if got := impl.ConfOf(odd); !slices.Equal(got, numbers(9, 9, -1)) {
		t.Errorf("ConfOf(%s) = %v", shortNode(odd), got)
	}
	wantConfs(t, "no right Conf", odd, 5, numbers(9, 9, -1))
	// An EntryConf that has no conf tells none.
	for _, data := range []string{"", "\x00", "\x05", "\x02\x01", "\x01\x01", letters(30000)} {
		n := impl.Node{Conf: numbers(1), Log: logOf(3, 1, confOf(1, "\x02"), confOf(1, data), noneOf(1))}
		wantConfs(t, "no conf", n, 5, nil)
		wantConfs(t, "ahead of it", n, 4, numbers(2))
		if got := impl.ConfOf(n); len(got) != 0 {
			t.Errorf("ConfOf(%s) = %v", shortNode(n), got)
		}
	}
	if len(impl.ConfOf(impl.Node{})) != 0 || len(impl.ConfAt(impl.Node{}, 0)) != 0 {
		t.Error("a node of nothing has a conf")
	}
	for why, l := range wrongLogs() {
		n := impl.Node{Conf: numbers(1, 4), Log: l}
		impl.ConfOf(n)
		for _, index := range append(farNumbers(), l.Start-1, l.Start, l.Start+1, l.Start+len(l.Entries)) {
			if l.Start < most-200 {
				wantConfs(t, why, n, index, plainConfUpTo(n, index))
			}
			impl.ConfAt(n, index)
		}
	}
}

func TestNodeNew(t *testing.T) {
	ids := append(farNumbers(), 0, 1, 2, 3, 4, 5, 6)
	right := 0
	for _, conf := range append(listsOf(5, 0, 1, 2, 3, 4, 5), nil, numbers(-1), numbers(1, math.MaxInt), make([]int, 100000)) {
		for _, id := range ids {
			if len(conf) > 2 && !plainConfOk(conf) && !among(id, 0, 5) {
				continue
			}
			n, ok := impl.NodeNew(id, conf)
			want := impl.Node{}
			if among(id, 1, 4) && plainConfOk(conf) {
				want = impl.Node{Id: id, Conf: conf, Limit: 20}
				right++
			}
			if ok != (want.Limit == 20) || !sameNode(n, want) || ok != impl.NodeOk(n) {
				t.Errorf("NodeNew(%d, %v) = %s, %v", id, conf[:min(9, len(conf))], shortNode(n), ok)
			}
		}
	}
	if right != 4*15 {
		t.Errorf("%d new nodes are right", right)
	}
}
