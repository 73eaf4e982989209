package tests

import (
	"fmt"
	"slices"
	"strings"
	"sync"
	"testing"

	"loop.example/g00103/impl"
)

// drawnAsk is a command near to what a state knows of: mostly the next one of a
// session that is there.
func drawnAsk(d *drawing, state []impl.Pair) impl.Command {
	known, _ := plainSessions(state)
	c := impl.Command{Op: 1}
	if d.below(6) > 0 || len(known) > 0 && d.below(3) > 0 {
		var list []int
		for number := range known {
			list = append(list, number)
		}
		slices.Sort(list)
		c = impl.Command{Op: 2 + d.below(4), Session: 1 + d.below(4), Seq: d.below(4), Key: letters(d.below(8)) + string(rune('a'+d.below(8)))}
		if len(list) > 0 && d.below(8) > 0 {
			c.Session = list[d.below(len(list))]
			c.Seq = max(0, known[c.Session].seq+[]int{1, 1, 1, 1, 1, 0, 2, -1}[d.below(8)])
		}
		if c.Op == 3 || c.Op == 5 {
			c.Value = d.bytes(12)
		}
		if c.Op == 5 && d.below(2) == 0 {
			c.Old, _ = plainMapGet(state, "k"+c.Key)
			c.Old = c.Old[:min(12, len(c.Old))]
		}
	}
	return c
}

// drawnServerState is the map of a shelf; it may be one that Act refuses.
func drawnServerState(d *drawing) []impl.Pair {
	m := drawnState(d)
	if !plainMapOk(m) {
		return nil
	}
	return m
}

// drawnServer is right, of any Role: a drawn node, on a disk that fits it.
func drawnServer(d *drawing) impl.Server {
	n := drawnNode(d)
	state := drawnServerState(d)
	for at := range n.Log.Entries {
		if e := &n.Log.Entries[at]; e.Kind == 3 && d.below(3) > 0 {
			e.Data = plainCommandText(drawnAsk(d, state))
		}
	}
	first := d.below(5)
	man := manifestOf(upTo(first, 1+d.below(3)), first+3+d.below(3), n.Log.Start, n.Log.StartTerm, n.Conf)
	stamp := n.Log.Start + d.below(n.Commit-n.Log.Start+1)
	texts := drawnSegments(d, len(man.Segs), state, n.Log.Start, stamp)
	file := plainLogFile(n.Log)
	if d.below(4) == 0 {
		file = plainLogFile(logOf(3, 3, noneOf(9))) + file
	}
	disk := withFiles(shelfDisk(man, texts...), "log", file)
	if n.Term+n.Vote > 0 || d.below(2) == 0 {
		count := d.below([]int{2, 31, 80}[d.below(3)])
		disk = withFiles(disk, "vote", plainVotes(append(slices.Repeat([]cast{{1, 1}}, count), cast{n.Term, n.Vote})...))
	}
	if d.below(12) == 0 {
		disk = filled(disk, 27+d.below(4))
	}
	shelf, _, _ := plainOpen(disk)
	s := impl.Server{Node: n, Disk: disk, Shelf: shelf}
	if d.below(2) == 0 {
		s.Stage, s.StageAt, s.StageTerm = d.bytes(80), d.below(12), d.below(8)
	}
	return s
}

// drawnSegments have the state up to the base in the first of them, mostly as
// one batch, and batches up to the stamp in the last.
func drawnSegments(d *drawing, count int, state []impl.Pair, base, stamp int) []string {
	texts := make([]string, count)
	texts[0] = segmentOf(batchOfPairs(base, state))
	if d.below(8) == 0 {
		texts[0] = segmentOf(batchOfPairs(max(0, base-1), state))
	}
	if d.below(3) == 0 {
		texts[count-1] += strings.Repeat(segmentOf(batchOf(base)), 60+d.below(16))
	}
	last := batchOf(stamp)
	if len(state) < 60 {
		last = batchOf(stamp, set("kz", d.bytes(20)))
	}
	if stamp > base {
		texts[count-1] += segmentOf(last)
	}
	return texts
}

// drawnShipTo is an AskInstall near to what the server has staged; it may name a
// LogTerm above its Term.
func drawnShipTo(d *drawing, s impl.Server) impl.Message {
	m := ships(1+s.Node.Id%4, s.Node.Id, min(100000, max(0, s.Node.Term+[]int{-1, 0, 0, 0, 1}[d.below(5)])), 0, 0, 0, drawnSet(d, 4, 1, 5)...)
	m.Index = min(100000, max(0, s.Node.Commit+d.below(5)-1))
	m.LogTerm = max(0, plainLogTerm(s.Node.Log, m.Index))
	if d.below(2) == 0 {
		m.LogTerm = d.below(s.Node.Term + 1)
	}
	if d.below(3) == 0 {
		m.Index, m.LogTerm = s.StageAt, s.StageTerm
	}
	if d.below(10) == 0 {
		m.LogTerm = min(100000, m.Term+1)
	}
	text := segmentOf(batchOf(m.Index, set("ka", d.bytes(30))))
	m.Data, m.Last = text, d.below(3) > 0
	switch d.below(6) {
	case 0:
		m.Data = text[:d.below(len(text))]
	case 1:
		m.Data = d.bytes(60)
	case 2:
		m.Commit = len(s.Stage)
	case 3:
		m.Commit = d.below(100)
	}
	return m
}

func drawnInput(d *drawing, s impl.Server) impl.Input {
	switch d.below(12) {
	case 0:
		return tickOf(1 + d.below(20))
	case 1:
		return tickOf(d.below(24) - 1)
	case 2, 3:
		kind, data := drawnPlan(d, s.Node)
		return planOf(kind, data)
	case 4, 5:
		return mergeInput()
	case 6, 7, 8:
		return comingOf(drawnShipTo(d, s))
	case 9:
		return impl.Input{Kind: d.below(8) - 1, Limit: 3, Message: drawnTo(d, s.Node), Entry: 1}
	}
	m := drawnTo(d, s.Node)
	if d.below(20) == 0 {
		m = spoiledMessage(d, m)
	}
	return comingOf(m)
}

// passesRight tells of the two things by which a server does not stay right: a
// Stage of more than MaxText bytes, and a LogTerm above the Term.
func passesRight(s impl.Server) bool {
	return len(s.Stage) > 20000 || s.Node.Log.StartTerm > s.Node.Term
}

// drawCut has the power go at a drawn place of the raw writes.
func drawCut(d *drawing, o served) (int, int) {
	whole := d.below(len(o.raws) + 1)
	if whole < len(o.raws) && o.raws[whole].Kind <= impl.RawAdd {
		return whole, d.below(len(o.raws[whole].Text) + 1)
	}
	return whole, 0
}

// Each input that drawn servers are given is held against the plain rule.
func TestDrawnServes(t *testing.T) {
	d := &drawing{state: 91}
	seen := map[string]int{}
	for range 3000 {
		s := drawnServer(d)
		wantServer(t, "drawn", s, true)
		in := drawnInput(d, s)
		o := serve(s, in)
		if plain := plainServe(s, in); !sameServed(o, plain) {
			t.Fatalf("of %s\n%s\ncomes %s\nwant %s", shortServer(s), shortInput(in), shortServed(o), shortServed(plain))
		}
		seen[fmt.Sprint("kind ", in.Kind, o.ok)]++
		if passesRight(o.server) {
			seen["not right"]++
			continue
		}
		wantServeSound(t, shortInput(in), s, o)
		if !o.ok {
			continue
		}
		states := statesOf(s, o)
		for range 3 {
			whole, part := drawCut(d, o)
			wantCutSafe(t, shortInput(in), s, o, states, whole, part)
		}
		seen[fmt.Sprint("done ", len(o.done))]++
		for _, r := range o.raws {
			seen[fmt.Sprint("raw ", r.Kind, " ", strings.TrimRight(r.Name, "0123456789"))]++
		}
		for _, m := range o.told {
			seen[fmt.Sprint("told ", m.Kind, m.Ok)]++
		}
		for _, done := range o.done {
			seen[fmt.Sprint("kind done ", done.Entry.Kind, done.Reply != "")]++
		}
	}
	for what, least := range map[string]int{
		"kind 1 true": 100, "kind 1 false": 20, "kind 2 true": 500, "kind 2 false": 8, "kind 3 true": 50, "kind 3 false": 50, "kind 4 true": 100, "kind 4 false": 1,
		"kind 0 false": 10, "kind 5 false": 10, "kind 6 false": 10, "done 0": 100, "done 1": 100, "done 5": 15, "done 6": 60,
		"raw 2 vote": 100, "raw 1 vote+": 60, "raw 3 vote+": 60, "raw 2 log": 100, "raw 1 log+": 60, "raw 2 g": 100, "raw 1 g": 100, "raw 1 m+": 100, "raw 3 m+": 100, "raw 4 g": 100,
		"told 1 false": 10, "told 2 true": 10, "told 2 false": 30, "told 3 false": 30, "told 4 true": 30, "told 4 false": 30, "told 5 false": 20, "told 6 true": 60, "told 6 false": 200,
		"kind done 1 false": 100, "kind done 2 false": 100, "kind done 3 true": 100, "kind done 3 false": 100, "not right": 5,
	} {
		if seen[what] < least {
			t.Errorf("%s: %d times; want %d at least", what, seen[what], least)
		}
	}
}

// Boot of disks that are spoiled is held against the plain rule.
func TestDrawnBoots(t *testing.T) {
	d := &drawing{state: 92}
	codes := map[int]int{}
	for range 3000 {
		s := drawnServer(d)
		disk := s.Disk
		for range 1 + d.below(3) {
			disk = spoiledServerDisk(d, disk)
		}
		codes[wantBoot(t, "spoiled", s.Node.Id, disk, s.Node.Limit)]++
		up, list, code := impl.Boot(s.Node.Id, disk, s.Node.Limit)
		if code != 0 {
			continue
		}
		behind, done := impl.PutRaws(disk, list)
		if !sameDisk(up.Disk, behind) {
			t.Errorf("spoiled: the disk is %s; the raw writes leave %s", short(up.Disk), short(behind))
		}
		if done == len(list) {
			wantUp(t, "spoiled", up)
		}
	}
	for code, least := range map[int]int{0: 500, 1: 100, 2: 100, 3: 100} {
		if codes[code] < least {
			t.Errorf("the code %d: %d times", code, codes[code])
		}
	}
}

func spoiledServerDisk(d *drawing, disk impl.Disk) impl.Disk {
	names := []string{"log", "log", "vote", "vote", "m", "log+", "vote+", "m+", "g9"}
	f := disk.Files[d.below(len(disk.Files))]
	switch d.below(6) {
	case 0:
		return withFiles(disk, names[d.below(len(names))], d.bytes(9))
	case 1:
		return withFiles(disk, names[5+d.below(4)], d.bytes(9))
	case 2:
		return withFiles(disk, f.Name, f.Text+d.bytes(9))
	case 3:
		return withFiles(disk, f.Name, f.Text[:d.below(len(f.Text)+1)])
	case 4:
		if len(f.Text) > 0 {
			return withFiles(disk, f.Name, turned(f.Text, d.below(len(f.Text)), 1+d.below(255)))
		}
	case 5:
		if len(disk.Files) > 1 && d.below(2) == 0 {
			return withoutFile(disk, f.Name)
		}
	}
	return disk
}

// serverLife is servers that tell each other, and what was seen of them.
type serverLife struct {
	t       *testing.T
	d       *drawing
	servers map[int]impl.Server
	net     []impl.Message
	votes   map[[2]int]int
	leaders map[int]int
	applied map[int]impl.Entry
	states  map[int][]impl.Pair
	seen    map[string]int
}

func newServerLife(t *testing.T, seed uint32, conf []int) *serverLife {
	l := &serverLife{t: t, d: &drawing{state: seed}, servers: map[int]impl.Server{}, votes: map[[2]int]int{}, leaders: map[int]int{},
		applied: map[int]impl.Entry{}, states: map[int][]impl.Pair{0: nil}, seen: map[string]int{}}
	disk, ok := impl.FormatDisk(conf)
	for id := 1; id <= 4; id++ {
		s, list, code := impl.Boot(id, disk, 2+l.d.below(5))
		if !ok || code != 0 || len(list) > 0 {
			t.Fatalf("Boot of FormatDisk(%v): %s, %d", conf, shortRaws(list), code)
		}
		l.servers[id] = s
	}
	return l
}

// take puts what an input left in the server's place; or has the power go in
// the midst of it.
func (l *serverLife) take(in impl.Input, id int) {
	s := l.servers[id]
	o := serve(s, in)
	why := shortInput(in)
	if l.d.below(4) == 0 {
		if plain := plainServe(s, in); !sameServed(o, plain) {
			l.t.Fatalf("a life: of %s\n%s\ncomes %s\nwant %s", shortServer(s), why, shortServed(o), shortServed(plain))
		}
	}
	wantServeSound(l.t, why, s, o)
	l.seen[fmt.Sprint("kind ", in.Kind, o.ok)]++
	if !o.ok {
		return
	}
	l.look(why, id, o)
	if len(o.raws) > 0 {
		l.cut(why, s, o)
	}
	if l.d.below(60) == 0 {
		l.powerGoes(id, s, o)
		return
	}
	l.servers[id] = o.server
	l.net = append(l.net, o.told...)
	for _, m := range o.told {
		l.seen[fmt.Sprint("told ", m.Kind, m.Ok, m.Last)]++
	}
}

// cut has the power go at every byte, now and then, and else at a few.
func (l *serverLife) cut(why string, s impl.Server, o served) {
	if l.d.below(40) == 0 {
		wantCutsSafe(l.t, why, s, o)
		l.seen["cut everywhere"]++
		return
	}
	states := statesOf(s, o)
	for range 2 {
		whole, part := drawCut(l.d, o)
		wantCutSafe(l.t, why, s, o, states, whole, part)
	}
}

// look holds what came against what all servers did.
func (l *serverLife) look(why string, id int, o served) {
	n := o.server.Node
	if vote := l.votes[[2]int{id, n.Term}]; vote != 0 && vote != n.Vote {
		l.t.Errorf("%s: in Term %d server %d votes for %d and for %d", why, n.Term, id, vote, n.Vote)
	}
	if n.Role == impl.RoleLead {
		if lead := l.leaders[n.Term]; lead != 0 && lead != id {
			l.t.Errorf("%s: in Term %d server %d leads, and %d", why, n.Term, lead, id)
		}
	}
	for _, d := range o.done {
		if was, is := l.applied[d.Index]; is && was != d.Entry {
			l.t.Errorf("%s: the index %d is %v and %v", why, d.Index, was, d.Entry)
		}
		state, reply := plainState(l.states[d.Index-1], d.Index, d.Entry)
		if reply != d.Reply {
			l.t.Errorf("%s: the reply of %d is %q; want %q", why, d.Index, d.Reply, reply)
		}
		l.applied[d.Index], l.states[d.Index] = d.Entry, state
		l.seen[fmt.Sprint("done ", d.Entry.Kind)]++
	}
	if len(o.done) == 0 && o.server.Shelf.Stamp > l.servers[id].Shelf.Stamp {
		l.seen["installed"]++
	}
	m, ok := impl.ShelfMap(o.server.Disk, o.server.Shelf)
	if want := l.states[o.server.Shelf.Stamp]; !ok || !slices.Equal(m, want) {
		l.t.Errorf("%s: the map at %d is %v; want %v", why, o.server.Shelf.Stamp, m, want)
	}
}

// powerGoes leaves the server on what was written, from which it comes up.
func (l *serverLife) powerGoes(id int, s impl.Server, o served) {
	whole, part := drawCut(l.d, o)
	disk, _ := impl.CutRaws(s.Disk, o.raws, whole, part)
	up, list, code := impl.Boot(id, disk, 2+l.d.below(6))
	if code != 0 {
		l.t.Fatalf("behind a cut: the code %d of %s", code, short(disk))
	}
	wantUp(l.t, "behind a cut", up)
	l.seen["power"]++
	if len(list) > 0 {
		l.seen["power, cleaned"]++
	}
	l.settleVote(id, up.Node)
	l.servers[id] = up
}

// settleVote keeps what a server is known to have voted, and where it leads.
func (l *serverLife) settleVote(id int, n impl.Node) {
	l.votes[[2]int{id, n.Term}] = n.Vote
	if n.Role == impl.RoleLead {
		l.leaders[n.Term] = id
	}
}

func (l *serverLife) step() {
	id := 1 + l.d.below(4)
	s := l.servers[id]
	switch l.d.below(20) {
	case 0, 1, 2:
		l.take(tickOf(3+l.d.below(8)), id)
	case 3, 4:
		if s.Node.Role != impl.RoleLead && l.d.below(10) > 0 {
			return
		}
		state, _ := plainShelfMap(s.Disk, s.Shelf)
		in := planOf(3, plainCommandText(drawnAsk(l.d, state)))
		if l.d.below(6) == 0 {
			kind, data := drawnPlan(l.d, s.Node)
			in = planOf(kind, data)
		}
		l.take(in, id)
	case 5:
		if l.d.below(2) == 0 {
			l.take(mergeInput(), id)
		}
	default:
		l.message()
	}
	l.settleVote(id, l.servers[id].Node)
}

// message delivers one, drops one, or lets one come twice.
func (l *serverLife) message() {
	if len(l.net) == 0 {
		return
	}
	at := l.d.below(len(l.net))
	if l.d.below(3) > 0 {
		at = 0
	}
	m := l.net[at]
	if l.d.below(16) == 0 {
		l.net = append(l.net, m)
		return
	}
	l.net = slices.Delete(l.net, at, at+1)
	if l.d.below(12) > 0 {
		l.take(comingOf(m), m.To)
		l.settleVote(m.To, l.servers[m.To].Node)
	}
}

func TestDrawnLivesOfServers(t *testing.T) {
	var lock sync.Mutex
	seen := map[string]int{}
	most := 0
	t.Run("lives", func(t *testing.T) {
		for seed := range 24 {
			t.Run(fmt.Sprint(seed), func(t *testing.T) {
				t.Parallel()
				l := newServerLife(t, uint32(seed+1), [][]int{{1, 2, 3}, {1}, {1, 2, 3, 4}, {2, 4}, {3}, {1, 3, 4}}[seed%6])
				for range 3000 {
					l.step()
				}
				lock.Lock()
				defer lock.Unlock()
				for what, count := range l.seen {
					seen[what] += count
				}
				for _, s := range l.servers {
					most = max(most, s.Shelf.Stamp)
				}
				seen["terms"] += len(l.leaders)
			})
		}
	})
	for what, least := range map[string]int{"terms": 60, "installed": 10, "power": 100, "power, cleaned": 30, "cut everywhere": 60,
		"done 1": 100, "done 2": 20, "done 3": 200, "kind 1 true": 1000, "kind 2 true": 1000, "kind 3 true": 200, "kind 4 true": 100,
		"told 1 false false": 50, "told 2 true false": 50, "told 3 false false": 200, "told 4 true false": 200, "told 4 false false": 10,
		"told 5 false false": 20, "told 5 false true": 10, "told 6 true false": 10, "told 6 false false": 20} {
		if seen[what] < least {
			t.Errorf("%s: %d times; want %d at least", what, seen[what], least)
		}
	}
	if most < 20 {
		t.Errorf("no more than %d entries are applied", most)
	}
}

// A server alone is given the same commands twice, and comes up behind each: what
// it replied stays.
func TestDrawnLivesOfOneServer(t *testing.T) {
	for seed := range 6 {
		d := &drawing{state: uint32(700 + seed)}
		disk, _ := impl.FormatDisk(numbers(2))
		s, _, _ := impl.Boot(2, disk, 1)
		s = serve(s, tickOf(1)).server
		for round := range 60 {
			state, _ := plainShelfMap(s.Disk, s.Shelf)
			c := drawnAsk(d, state)
			o := serve(s, planOf(3, plainCommandText(c)))
			if !o.ok || len(o.done) != 1 || o.index != o.done[0].Index {
				t.Fatalf("round %d: %s", round, shortServed(o))
			}
			wantServeSound(t, "alone", s, o)
			up, list, code := impl.Boot(2, o.server.Disk, 1)
			if code != 0 || len(list) > 0 || up.Node.Term != o.server.Node.Term {
				t.Fatalf("round %d: come up it is %s, %s, %d", round, shortServer(up), shortRaws(list), code)
			}
			up = serve(up, tickOf(1)).server
			if c.Op == 1 {
				s = up
				continue
			}
			again := serve(up, planOf(3, plainCommandText(c)))
			if reply := o.done[0].Reply; !again.ok || reply != "gap" && again.done[len(again.done)-1].Reply != reply {
				t.Fatalf("round %d: %v is replied %q, then %s", round, c, reply, shortServed(again))
			}
			s = again.server
			if len(s.Node.Log.Entries) > 40 {
				s = serve(s, mergeInput()).server
			}
		}
	}
}

// serverWithRoom has other things in the room behind each of its lists.
func serverWithRoom(s impl.Server) impl.Server {
	s.Node = nodeWithRoom(s.Node)
	s.Disk, s.Shelf = shelfWithRoom(s.Disk, s.Shelf)
	return s
}

func roomOfServer(s impl.Server) string {
	return roomOfNode(s.Node) + roomOf(s.Disk, s.Shelf, impl.Batch{}) + fmt.Sprint(s.Stage, s.StageAt, s.StageTerm)
}

func overwriteFiles(list []impl.File) {
	for at := range list[:cap(list)] {
		list[:cap(list)][at] = impl.File{Name: "turned", Text: "turned"}
	}
}

func overwriteDone(list []impl.Done) {
	for at := range list[:cap(list)] {
		list[:cap(list)][at] = impl.Done{Index: -7, Reply: "turned"}
	}
}

func listsOfServed(o served) []listPart {
	s := o.server
	parts := listsOfOutcome(outcome{node: s.Node, told: o.told})
	return append(parts,
		listPart{func() string { return fmt.Sprint(s.Disk.Files) }, func() { overwriteFiles(s.Disk.Files) }},
		listPart{func() string { return fmt.Sprint(s.Shelf.Man.Segs) }, func() { overwrite(s.Shelf.Man.Segs) }},
		listPart{func() string { return fmt.Sprint(s.Shelf.Man.Conf) }, func() { overwrite(s.Shelf.Man.Conf) }},
		listPart{func() string { return fmt.Sprint(s.Shelf.Dir) }, func() { overwriteSpots(s.Shelf.Dir) }},
		listPart{func() string { return fmt.Sprint(o.raws) }, func() { overwriteRaws(o.raws) }},
		listPart{func() string { return fmt.Sprint(o.done) }, func() { overwriteDone(o.done) }})
}

func wantServedApart(t *testing.T, why string, o served) {
	t.Helper()
	wantPartsApart(t, why, listsOfServed(o))
}

func booted(id int, d impl.Disk, limit int) served {
	s, raws, _ := impl.Boot(id, d, limit)
	return served{server: s, raws: raws}
}

func TestArgumentsOfServersStay(t *testing.T) {
	d := &drawing{state: 93}
	for range 600 {
		s := serverWithRoom(drawnServer(d))
		in := drawnInput(d, s)
		in.Message = messageWithRoom(in.Message)
		was, wasInput := roomOfServer(s), roomOfMessage(in.Message)
		spoiled, _ := shelfWithRoom(spoiledServerDisk(d, s.Disk), s.Shelf)
		wasSpoiled := fmt.Sprint(spoiled.Files[:cap(spoiled.Files)])
		impl.ServerOk(s)
		answers := []served{serve(s, in), serve(s, mergeInput()), serve(s, tickOf(3)), booted(s.Node.Id, s.Disk, s.Node.Limit), booted(s.Node.Id, spoiled, s.Node.Limit)}
		formatted, _ := impl.FormatDisk(s.Node.Conf)
		answers = append(answers, served{server: impl.Server{Disk: formatted}})
		for round := range 2 {
			if roomOfServer(s) != was || roomOfMessage(in.Message) != wasInput || fmt.Sprint(spoiled.Files[:cap(spoiled.Files)]) != wasSpoiled {
				t.Fatalf("round %d: an argument is another now: %s; was %s", round, roomOfServer(s), was)
			}
			for at, o := range answers {
				wantServedApart(t, fmt.Sprint("answer ", at), o)
			}
		}
	}
}

func TestTwoAnswersOfServersShareNothing(t *testing.T) {
	d := &drawing{state: 94}
	for range 200 {
		s := drawnServer(d)
		in := drawnInput(d, s)
		for why, ask := range map[string]func() served{
			"Serve": func() served { return serve(s, in) },
			"Boot":  func() served { return booted(s.Node.Id, s.Disk, s.Node.Limit) },
		} {
			first, second := ask(), ask()
			was := fmt.Sprint(second)
			for _, part := range listsOfServed(first) {
				part.write()
			}
			if fmt.Sprint(second) != was {
				t.Errorf("%s: two answers share memory", why)
			}
		}
	}
}

func fileTexts(d impl.Disk) []string {
	var texts []string
	for _, f := range d.Files {
		texts = append(texts, f.Name, f.Text)
	}
	return texts
}

// textsOfServer are the texts of each of its lists, and its Stage.
func textsOfServer(s impl.Server) [][]string {
	return [][]string{dataOf(s.Node.Log), fileTexts(s.Disk), spotTexts(s.Shelf.Dir), {s.Stage}}
}

func textsOfServed(o served) [][]string {
	all := textsOfServer(o.server)
	var raws, told, done []string
	for _, r := range o.raws {
		raws = append(raws, r.Text)
	}
	for _, m := range o.told {
		all = append(all, dataOf(impl.Log{Entries: m.Entries}))
		told = append(told, m.Data)
	}
	for _, d := range o.done {
		done = append(done, d.Entry.Data, d.Reply)
	}
	return append(all, raws, told, done)
}

// newServer is s with new memory for each of its texts; these are answered too.
func newServer(s impl.Server) (impl.Server, []string) {
	s = cloneServer(s)
	log, words := newLog(s.Node.Log)
	s.Node.Log = log
	disk, files := newDisk(s.Disk)
	s.Disk = disk
	for at := range s.Shelf.Dir {
		s.Shelf.Dir[at].Key = strings.Clone(s.Shelf.Dir[at].Key)
	}
	s.Stage = strings.Clone(s.Stage)
	return s, slices.Concat(words, files, spotTexts(s.Shelf.Dir), []string{s.Stage})
}

// tornDisk has bytes behind what is whole of the log and of the votes.
func tornDisk(d impl.Disk) impl.Disk {
	log, _ := textOf(d, "log")
	votes, _ := textOf(d, "vote")
	return withFiles(d, "log", log+"torn", "vote", votes+"torn")
}

func TestTextsOfServersAreNewMemory(t *testing.T) {
	d := &drawing{state: 95}
	replied := []string{"put", "cut", "none", "kept", "swapped", "expired", "stale", "gap"}
	for range 600 {
		s, words := newServer(drawnServer(d))
		in := drawnInput(d, s)
		sent, more := newLog(impl.Log{Entries: in.Message.Entries})
		in.Message.Entries = sent.Entries
		in.Message.Data, in.Data = strings.Clone(in.Message.Data), strings.Clone(in.Data)
		torn, tornWords := newDisk(tornDisk(s.Disk))
		words = slices.Concat(words, more, tornWords, []string{in.Message.Data, in.Data})
		for why, o := range map[string]served{
			"Serve": serve(s, in), "Boot": booted(s.Node.Id, s.Disk, s.Node.Limit), "Boot of a torn disk": booted(s.Node.Id, torn, s.Node.Limit),
		} {
			all := textsOfServed(o)
			for at, texts := range all {
				texts = slices.DeleteFunc(slices.Clone(texts), func(w string) bool { return slices.Contains(replied, w) })
				wantOwn(t, why, texts, words)
				for _, others := range all[at+1:] {
					wantOwn(t, why+", another list", texts, others)
				}
			}
		}
	}
}

// Empty lists and nil are the same value.
func TestEmptyListsOfServers(t *testing.T) {
	d, _ := impl.FormatDisk(numbers(1, 2))
	base := serverOn(t, 1, d)
	for _, list := range [][]impl.Entry{nil, {}, entries(noneOf(9))[:0]} {
		for _, dir := range [][]impl.Spot{nil, {}, spots(spot("a", 0, 0, 0))[:0]} {
			for _, votes := range [][]int{nil, {}, numbers(3)[:0]} {
				s := serverWith(base, func(s *impl.Server) { s.Node.Log.Entries, s.Shelf.Dir, s.Node.Votes = list, dir, votes })
				wantServer(t, "empty lists", s, true)
				in := comingOf(asks(3, 2, 1, 1, 0, 0, 0, list...))
				in.Message.Conf = votes
				wantPlainServe(t, "empty lists", s, in)
				wantPlainServe(t, "empty lists", s, mergeInput())
			}
		}
	}
	for _, conf := range [][]int{nil, {}, numbers(1)[:0]} {
		if _, ok := impl.FormatDisk(conf); ok {
			t.Error("a disk without a conf")
		}
	}
	for _, files := range [][]impl.File{nil, {}, d.Files[:0]} {
		wantBootCode(t, "no files", 1, impl.Disk{Files: files}, 5, 1)
	}
}

func TestManyServersAtOnce(t *testing.T) {
	var all sync.WaitGroup
	d := &drawing{state: 96}
	var servers []impl.Server
	var inputs []impl.Input
	var wanted []served
	for range 40 {
		s := drawnServer(d)
		in := drawnInput(d, s)
		servers, inputs, wanted = append(servers, s), append(inputs, in), append(wanted, plainServe(s, in))
	}
	for range 8 {
		all.Add(1)
		go func() {
			defer all.Done()
			for at, s := range servers {
				if o := serve(s, inputs[at]); !sameServed(o, wanted[at]) {
					t.Errorf("at once: of %s comes %s; want %s", shortInput(inputs[at]), shortServed(o), shortServed(wanted[at]))
				}
				if !impl.ServerOk(s) {
					t.Errorf("at once: %s is not right", shortServer(s))
				}
			}
		}()
	}
	all.Wait()
}

// Nothing is kept from one call to another.
func TestServeKeepsNothing(t *testing.T) {
	d := &drawing{state: 97}
	for range 150 {
		s := drawnServer(d)
		in := drawnInput(d, s)
		first := serve(s, in)
		serve(drawnServer(d), mergeInput())
		impl.Boot(1, impl.Disk{}, 1)
		if again := serve(s, in); !sameServed(first, again) {
			t.Errorf("of %s comes %s, then %s", shortInput(in), shortServed(first), shortServed(again))
		}
	}
}
