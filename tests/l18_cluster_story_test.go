package tests

import (
	"fmt"
	"math"
	"slices"
	"testing"

	"loop.example/g00103/impl"
)

// plainCluster is the document's rule of a life, event by event.
type plainCluster struct {
	serve   func(s impl.Server, in impl.Input) served
	boot    func(id int, d impl.Disk, limit int) (impl.Server, []impl.Raw, int)
	world   impl.World
	events  []impl.Event
	numbers []int
	raws    []impl.Raw
}

// newPlainCluster goes by the plain rules of servers, too.
func newPlainCluster(nodes int, conf []int) *plainCluster {
	return &plainCluster{serve: plainServe, boot: plainBoot, world: newWorld(nodes, conf)}
}

// newSwiftCluster goes by the servers' own functions.
func newSwiftCluster(nodes int, conf []int) *plainCluster {
	return &plainCluster{serve: serve, boot: impl.Boot, world: newWorld(nodes, conf)}
}

func (p *plainCluster) happen(e impl.Event) int {
	p.raws = nil
	number := p.comes(e)
	p.events = append(p.events, e)
	p.numbers = append(p.numbers, number)
	return number
}

func (p *plainCluster) ran() ran { return ran{p.world, p.numbers, true} }

func (p *plainCluster) comes(e impl.Event) int {
	w := &p.world
	switch e.Kind {
	case 1:
		return p.input(e, e.Node, tickOf(e.Limit))
	case 5:
		return p.input(e, e.Node, planOf(3, plainCommandText(e.Command)))
	case 6:
		return p.input(e, e.Node, planOf(2, bytesOfConf(e.Conf)))
	case 7:
		return p.input(e, e.Node, mergeInput())
	case 8:
		if !w.Up[e.Node-1] {
			return 1
		}
		p.fall(e.Node)
		return 0
	case 9:
		if w.Up[e.Node-1] {
			return 1
		}
		s, _, code := p.boot(e.Node, w.Servers[e.Node-1].Disk, e.Limit)
		if code != 0 {
			return 2
		}
		w.Servers[e.Node-1] = s
		w.Up[e.Node-1] = true
		return 0
	}
	if len(w.Net) == 0 {
		return 1
	}
	at := e.At % len(w.Net)
	m := w.Net[at]
	if e.Kind == 4 {
		w.Net = append(w.Net, m)
		return 0
	}
	w.Net = slices.Concat(w.Net[:at], w.Net[at+1:])
	if e.Kind == 3 {
		return 0
	}
	return p.input(e, m.To, comingOf(m))
}

func (p *plainCluster) fall(node int) {
	p.world.Up[node-1] = false
	p.world.Waits = withoutWaits(p.world.Waits, func(x impl.Wait) bool { return x.Node == node })
}

func withoutWaits(list []impl.Wait, gone func(x impl.Wait) bool) []impl.Wait {
	var left []impl.Wait
	for _, x := range list {
		if !gone(x) {
			left = append(left, x)
		}
	}
	return left
}

func (p *plainCluster) input(e impl.Event, node int, in impl.Input) int {
	w := &p.world
	if !w.Up[node-1] {
		return 1
	}
	was := w.Servers[node-1]
	o := p.serve(was, in)
	if !o.ok {
		return 2
	}
	p.raws = o.raws
	n := o.server.Node
	if e.Cut {
		w.Servers[node-1].Disk = diskLeft(was.Disk, o.raws, e.Whole, e.Part)
		shelf, _, _ := plainOpen(w.Servers[node-1].Disk)
		for _, d := range o.done {
			if d.Index <= shelf.Stamp {
				w.Applied = append(w.Applied, appliedOf(node, n.Term, d.Index, d.Entry))
			}
		}
		p.fall(node)
		return 3
	}
	w.Servers[node-1] = o.server
	w.Net = append(w.Net, o.told...)
	if n.Role == 2 && (was.Node.Role != 2 || was.Node.Term != n.Term) {
		w.Leaders = append(w.Leaders, impl.Leader{Node: node, Term: n.Term, Log: n.Log})
	}
	if e.Kind == 5 {
		w.Waits = append(w.Waits, impl.Wait{Node: node, Index: o.index, Term: n.Term, Call: len(p.events)})
	}
	for _, d := range o.done {
		w.Applied = append(w.Applied, appliedOf(node, n.Term, d.Index, d.Entry))
		p.settle(node, d, append(slices.Clone(p.events), e))
	}
	return 0
}

// settle replies to who waits for what is done.
func (p *plainCluster) settle(node int, d impl.Done, events []impl.Event) {
	w := &p.world
	for _, x := range w.Waits {
		if x.Node == node && x.Index == d.Index && x.Term == d.Entry.Term {
			w.Replies = append(w.Replies, impl.Reply{Call: x.Call, Index: d.Index, Command: events[x.Call].Command, Text: d.Reply})
		}
	}
	w.Waits = withoutWaits(w.Waits, func(x impl.Wait) bool { return x.Node == node && x.Index == d.Index })
}

// diskLeft is what a power leaves that goes behind so many raw writes, and so
// many bytes of the next one, or all of it where it has fewer.
func diskLeft(d impl.Disk, raws []impl.Raw, whole, part int) impl.Disk {
	for len(raws) > 0 && whole > 0 {
		d, _ = plainDo(d, raws[0])
		raws, whole = raws[1:], whole-1
	}
	if len(raws) == 0 || raws[0].Kind > 2 || raws[0].Text == "" || part <= 0 {
		return d
	}
	next := raws[0]
	if part < len(next.Text) {
		next.Text = next.Text[:part]
	}
	d, _ = plainDo(d, next)
	return d
}

func appliedOf(node, term, index int, e impl.Entry) impl.Applied {
	return impl.Applied{Node: node, Term: term, Index: index, Entry: e}
}

func waitOf(node, index, term, call int) impl.Wait {
	return impl.Wait{Node: node, Index: index, Term: term, Call: call}
}

// story is a life that is written out, event by event: what comes of each.
type story struct {
	t       *testing.T
	nodes   int
	conf    []int
	events  []impl.Event
	numbers []int
	want    impl.World
	plain   *plainCluster
}

func newStory(t *testing.T, nodes int, conf ...int) *story {
	return &story{t: t, nodes: nodes, conf: conf, want: newWorld(nodes, conf), plain: newPlainCluster(nodes, conf)}
}

// place is the one of the event that comes next.
func (s *story) place() int { return len(s.events) }

// goes has an event come, of which this number and this change come.
func (s *story) goes(why string, e impl.Event, number int, changes ...func(w *impl.World)) {
	s.t.Helper()
	s.events, s.numbers = append(s.events, e), append(s.numbers, number)
	s.want = cloneWorld(s.want)
	for _, change := range changes {
		change(&s.want)
	}
	s.plain.happen(e)
	want := ran{s.want, s.numbers, true}
	if got := ranOf(s.nodes, s.conf, s.events...); !sameRan(got, want) {
		s.t.Fatalf("%s: of %d events comes %s\nwant %s", why, len(s.events), shortRan(got), shortRan(want))
	}
	if got := s.plain.ran(); !sameRan(got, want) {
		s.t.Fatalf("%s: the plain rule tells of %d events %s\nwant %s", why, len(s.events), shortRan(got), shortRan(want))
	}
}

func (s *story) stays(why string, e impl.Event, number int) {
	s.t.Helper()
	s.goes(why, e, number)
}

// serves has an event come that is an input of a node; told is what comes behind
// Net.
func (s *story) serves(why string, e impl.Event, node int, in impl.Input, told []impl.Message, changes ...func(w *impl.World)) {
	s.t.Helper()
	o := serve(s.want.Servers[node-1], in)
	if !o.ok {
		s.t.Fatalf("%s: Serve of %s is false", why, shortInput(in))
	}
	first := func(w *impl.World) {
		w.Servers[node-1] = o.server
		w.Net = append(w.Net, told...)
	}
	s.goes(why, e, 0, append([]func(w *impl.World){first}, changes...)...)
}

func (s *story) ticks(why string, node int, told []impl.Message, changes ...func(w *impl.World)) {
	s.t.Helper()
	s.serves(why, tickEvent(node, 9), node, tickOf(9), told, changes...)
}

func (s *story) calls(why string, node int, c impl.Command, told []impl.Message, changes ...func(w *impl.World)) {
	s.t.Helper()
	s.serves(why, callEvent(node, c), node, planOf(3, plainCommandText(c)), told, changes...)
}

func (s *story) confs(why string, node int, conf []int, told []impl.Message, changes ...func(w *impl.World)) {
	s.t.Helper()
	s.serves(why, confEvent(node, conf...), node, planOf(2, bytesOfConf(conf)), told, changes...)
}

// delivers has the message come that is at this place.
func (s *story) delivers(why string, at int, told []impl.Message, changes ...func(w *impl.World)) {
	s.t.Helper()
	m := s.takeAway(at)
	s.serves(why, deliverEvent(at), m.To, comingOf(m), told, changes...)
}

// takeAway is ahead of the event by which the message goes.
func (s *story) takeAway(at int) impl.Message {
	m := s.want.Net[at%len(s.want.Net)]
	s.want.Net = slices.Delete(slices.Clone(s.want.Net), at%len(s.want.Net), at%len(s.want.Net)+1)
	return m
}

func (s *story) drops(why string, at int) {
	s.t.Helper()
	s.takeAway(at)
	s.goes(why, dropEvent(at), 0)
}

func (s *story) falls(why string, node int, changes ...func(w *impl.World)) {
	s.t.Helper()
	down := func(w *impl.World) { w.Up[node-1] = false }
	s.goes(why, downEvent(node), 0, append(changes, down)...)
}

// comesUp has a node come up on the disk that it has.
func (s *story) comesUp(why string, node, limit int) {
	s.t.Helper()
	up, _, code := plainBoot(node, s.want.Servers[node-1].Disk, limit)
	if code != 0 {
		s.t.Fatalf("%s: the code %d", why, code)
	}
	wantUp(s.t, why, up)
	s.goes(why, upEvent(node, limit), 0, func(w *impl.World) { w.Up[node-1], w.Servers[node-1] = true, up })
}

// soon has a node come up anew, with a Limit of 1.
func (s *story) soon(node int) {
	s.t.Helper()
	s.falls("down", node)
	s.comesUp("up", node, 1)
}

func told(list ...impl.Message) []impl.Message { return list }

func leads(node, term int, l impl.Log) func(w *impl.World) {
	return func(w *impl.World) {
		w.Leaders = append(w.Leaders, impl.Leader{Node: node, Term: term, Log: l})
	}
}

func applies(node, term, index int, e impl.Entry) func(w *impl.World) {
	return func(w *impl.World) { w.Applied = append(w.Applied, appliedOf(node, term, index, e)) }
}

func replies(call, index int, c impl.Command, text string) func(w *impl.World) {
	return func(w *impl.World) {
		w.Replies = append(w.Replies, impl.Reply{Call: call, Index: index, Command: c, Text: text})
	}
}

// waiting are all that wait from now on.
func waiting(list ...impl.Wait) func(w *impl.World) { return func(w *impl.World) { w.Waits = list } }

func TestStoryOfOneAlone(t *testing.T) {
	s := newStory(t, 1, 1)
	for _, e := range []impl.Event{deliverEvent(0), dropEvent(0), copyEvent(0), deliverEvent(7), dropEvent(math.MaxInt), cutEvent(deliverEvent(1), 0, 0), cutEvent(dropEvent(1), 1, 1)} {
		s.stays("no message on the way", e, 1)
	}
	s.stays("up already", upEvent(1, 5), 1)
	s.stays("up already, with a cut", cutEvent(upEvent(1, 5), 0, 0), 1)
	for _, e := range []impl.Event{callEvent(1, openNew()), confEvent(1, 1), cutEvent(callEvent(1, openNew()), 0, 0), cutEvent(confEvent(1, 1), 1, 1)} {
		s.stays("it does not lead", e, 2)
	}
	s.serves("nothing to merge", mergeEvent(1), 1, mergeInput(), nil)
	s.ticks("time goes on", 1, nil)
	s.falls("down", 1)
	for _, e := range []impl.Event{downEvent(1), tickEvent(1, 3), callEvent(1, openNew()), confEvent(1, 1), mergeEvent(1), cutEvent(tickEvent(1, 3), 0, 0), cutEvent(mergeEvent(1), 0, 0)} {
		s.stays("it is down", e, 1)
	}
	s.goes("up, with a cut that no sentence names", cutEvent(upEvent(1, 1), 0, 0), 0, func(w *impl.World) {
		w.Up[0] = true
		w.Servers = newWorld(1, numbers(1)).Servers
		w.Servers[0].Node.Limit = 1
	})
	s.ticks("it leads", 1, nil, leads(1, 1, logOf(0, 0, noneOf(1))), applies(1, 1, 1, noneOf(1)))
	s.ticks("it goes on leading", 1, nil)
	put, get := putOf(1, 1, "a", "x"), getOf(1, 2, "a")
	s.calls("open", 1, openNew(), nil, applies(1, 1, 2, commandEntry(1, openNew())), replies(s.place(), 2, openNew(), "open 1"))
	s.calls("put", 1, put, nil, applies(1, 1, 3, commandEntry(1, put)), replies(s.place(), 3, put, "put"))
	s.calls("the same again", 1, put, nil, applies(1, 1, 4, commandEntry(1, put)), replies(s.place(), 4, put, "put"))
	s.calls("get", 1, get, nil, applies(1, 1, 5, commandEntry(1, get)), replies(s.place(), 5, get, "got x"))
	late, far, other := putOf(1, 1, "a", "y"), putOf(1, 4, "a", "z"), cutOf(7, 1, "a")
	s.calls("stale", 1, late, nil, applies(1, 1, 6, commandEntry(1, late)), replies(s.place(), 6, late, "stale"))
	s.calls("a gap", 1, far, nil, applies(1, 1, 7, commandEntry(1, far)), replies(s.place(), 7, far, "gap"))
	s.calls("expired", 1, other, nil, applies(1, 1, 8, commandEntry(1, other)), replies(s.place(), 8, other, "expired"))
	s.stays("the conf that it has", confEvent(1, 1), 2)
	s.serves("a merge", mergeEvent(1), 1, mergeInput(), nil)
	if base := s.want.Servers[0].Shelf.Man.Base; base != 8 {
		t.Errorf("the Base is %d", base)
	}
	s.serves("a merge of nothing", mergeEvent(1), 1, mergeInput(), nil)
	s.soon(1)
	s.ticks("it leads again", 1, nil, leads(1, 2, logOf(8, 1, noneOf(2))), applies(1, 2, 9, noneOf(2)))
	s.calls("asked again", 1, get, nil, applies(1, 2, 10, commandEntry(2, get)), replies(s.place(), 10, get, "got x"))
}

// leadOfThree is a life in which the node 1 leads 2 and 3: both AskAppends of its
// EntryNone are on the way.
func leadOfThree(t *testing.T) *story {
	t.Helper()
	s := newStory(t, 3, 1, 2, 3)
	s.soon(1)
	s.ticks("it stands", 1, told(asks(1, 1, 2, 1, 0, 0, 0), asks(1, 1, 3, 1, 0, 0, 0)))
	s.delivers("a vote is asked for", 0, told(tells(2, 2, 1, 1, true, 0)))
	s.goes("a copy", copyEvent(1), 0, func(w *impl.World) { w.Net = append(w.Net, tells(2, 2, 1, 1, true, 0)) })
	s.drops("an At of as many as there are", 3)
	s.delivers("most of the votes", 2, told(asks(3, 1, 2, 1, 0, 0, 0, noneOf(1)), asks(3, 1, 3, 1, 0, 0, 0, noneOf(1))), leads(1, 1, logOf(0, 0, noneOf(1))))
	s.delivers("a vote again", 0, nil)
	return s
}

func TestStoryOfThree(t *testing.T) {
	s := leadOfThree(t)
	open := commandEntry(1, openNew())
	call := s.place()
	s.calls("open", 1, openNew(), told(asks(3, 1, 2, 1, 0, 0, 0, noneOf(1), open), asks(3, 1, 3, 1, 0, 0, 0, noneOf(1), open)), waiting(waitOf(1, 2, 1, call)))
	s.stays("a call to one that follows", callEvent(2, openNew()), 2)
	s.delivers("the EntryNone comes to 2", 0, told(tells(4, 2, 1, 1, true, 1)))
	s.delivers("it is committed", 3, told(asks(3, 1, 2, 1, 1, 1, 1, open)), applies(1, 1, 1, noneOf(1)))
	s.delivers("both entries come to 2", 1, told(tells(4, 2, 1, 1, true, 2)))
	put := putOf(1, 1, "a", "x")
	second := s.place()
	s.calls("put", 1, put, told(asks(3, 1, 2, 1, 1, 1, 1, open, commandEntry(1, put)), asks(3, 1, 3, 1, 0, 0, 1, noneOf(1), open, commandEntry(1, put))), waiting(waitOf(1, 2, 1, call), waitOf(1, 3, 1, second)))
	s.delivers("the call is committed", 3, told(asks(3, 1, 2, 1, 2, 1, 2, commandEntry(1, put))), applies(1, 1, 2, open), replies(call, 2, openNew(), "open 1"), waiting(waitOf(1, 3, 1, second)))
	s.falls("3 is down", 3)
	s.takeAway(0)
	s.stays("the EntryNone comes to 3, which is down", deliverEvent(0), 1)
	s.takeAway(0)
	s.stays("both come to 3, with a cut", cutEvent(deliverEvent(0), 1, 1), 1)
	s.delivers("an elder one comes to 2", 0, told(tells(4, 2, 1, 1, true, 2)), applies(2, 1, 1, noneOf(1)))
	s.comesUp("3 is up", 3, 9)
	s.delivers("2 has both", 3, told(asks(3, 1, 2, 1, 2, 1, 2, commandEntry(1, put))))
	s.delivers("put comes to 2", 0, told(tells(4, 2, 1, 1, true, 3)))
	s.delivers("put comes to 3", 0, told(tells(4, 3, 1, 1, true, 3)), applies(3, 1, 1, noneOf(1)))
	s.delivers("it comes to 2 again", 0, told(tells(4, 2, 1, 1, true, 3)), applies(2, 1, 2, open))
	s.drops("and is lost", 0)
	if len(s.want.Net) != 3 {
		t.Fatalf("on the way are %s", shortWorld(s.want))
	}
	s.delivers("put is committed", 1, nil, applies(1, 1, 3, commandEntry(1, put)), replies(second, 3, put, "put"), waiting())
	s.ticks("the others are reminded", 1, told(asks(3, 1, 2, 1, 2, 1, 3, commandEntry(1, put)), asks(3, 1, 3, 1, 3, 1, 3)))
	s.delivers("3 hears of it", 3, told(tells(4, 3, 1, 1, true, 3)), applies(3, 1, 2, open), applies(3, 1, 3, commandEntry(1, put)))
}

func TestPlacesOnTheWay(t *testing.T) {
	base := leadOfThree(t)
	count := len(base.want.Net)
	if count != 2 {
		t.Fatalf("on the way are %d", count)
	}
	for _, at := range numbers(0, 1, 2, 3, 4, 5, 59, 60, 1<<32, 1<<32+1, math.MaxInt-1, math.MaxInt) {
		m, other := base.want.Net[at%2], base.want.Net[1-at%2]
		from := newStoryFrom(base)
		from.goes("a drop", dropEvent(at), 0, func(w *impl.World) { w.Net = told(other) })
		from = newStoryFrom(base)
		from.goes("a copy", copyEvent(at), 0, func(w *impl.World) { w.Net = append(w.Net, m) })
		from.goes("a copy of it", copyEvent(2), 0, func(w *impl.World) { w.Net = append(w.Net, m) })
		from = newStoryFrom(base)
		o := serve(from.want.Servers[m.To-1], comingOf(m))
		from.goes("a deliver", deliverEvent(at), 0, func(w *impl.World) {
			w.Net = told(other, tells(4, m.To, 1, 1, true, 1))
			w.Servers[m.To-1] = o.server
		})
		for node := 1; node <= 3; node++ {
			from = newStoryFrom(base)
			from.goes("whatever Node", impl.Event{Kind: impl.EvDrop, Node: node, At: at, Limit: -1, Cut: true}, 0, func(w *impl.World) { w.Net = told(other) })
		}
	}
}

// newStoryFrom goes on from where another one is.
func newStoryFrom(base *story) *story {
	s := newStory(base.t, base.nodes, base.conf...)
	s.events, s.numbers = slices.Clone(base.events), slices.Clone(base.numbers)
	s.want = cloneWorld(base.want)
	s.plain.world, s.plain.events, s.plain.numbers = cloneWorld(base.plain.world), slices.Clone(base.events), slices.Clone(base.numbers)
	return s
}

// A call whose index gets an entry of another Term is never replied, and nobody
// waits for it any more.
func TestStoryOfACallThatIsLost(t *testing.T) {
	s := leadOfThree(t)
	s.drops("nobody hears", 0)
	s.drops("nobody hears", 0)
	open := commandEntry(1, openNew())
	lost := waitOf(1, 2, 1, s.place())
	s.calls("open", 1, openNew(), told(asks(3, 1, 2, 1, 0, 0, 0, noneOf(1), open), asks(3, 1, 3, 1, 0, 0, 0, noneOf(1), open)), waiting(lost))
	later := waitOf(1, 3, 1, s.place())
	s.calls("and once more", 1, openNew(), told(asks(3, 1, 2, 1, 0, 0, 0, noneOf(1), open, open), asks(3, 1, 3, 1, 0, 0, 0, noneOf(1), open, open)), waiting(lost, later))
	for range 4 {
		s.drops("nobody hears", 0)
	}
	s.soon(2)
	s.ticks("2 stands", 2, told(asks(1, 2, 1, 2, 0, 0, 0), asks(1, 2, 3, 2, 0, 0, 0)))
	s.delivers("3 votes", 1, told(tells(2, 3, 2, 2, true, 0)))
	s.delivers("2 leads", 1, told(asks(3, 2, 1, 2, 0, 0, 0, noneOf(2)), asks(3, 2, 3, 2, 0, 0, 0, noneOf(2))), leads(2, 2, logOf(0, 0, noneOf(2))))
	s.delivers("1 does not vote, nor lead", 0, told(tells(2, 1, 2, 2, false, 0)))
	s.stays("1 does not lead", callEvent(1, openNew()), 2)
	s.delivers("1 has the new entry", 0, told(tells(4, 1, 2, 2, true, 1)))
	if last, _ := plainLast(s.want.Servers[0].Node.Log); last != 1 {
		t.Errorf("the log of 1 ends at %d", last)
	}
	s.delivers("it is committed", 2, nil, applies(2, 2, 1, noneOf(2)))
	put := putOf(9, 1, "a", "x")
	entry := commandEntry(2, put)
	call := s.place()
	s.calls("a call to 2, of the same index", 2, put, told(asks(3, 2, 1, 2, 1, 2, 1, entry), asks(3, 2, 3, 2, 0, 0, 1, noneOf(2), entry)), waiting(lost, later, waitOf(2, 2, 2, call)))
	s.delivers("1 has it", 2, told(tells(4, 1, 2, 2, true, 2)), applies(1, 2, 1, noneOf(2)))
	s.delivers("the call to 2 is replied, and not by 1", 3, nil, applies(2, 2, 2, entry), replies(call, 2, put, "expired"), waiting(lost, later))
	s.serves("2 reminds", tickEvent(2, 9), 2, tickOf(9), told(asks(3, 2, 1, 2, 2, 2, 2), asks(3, 2, 3, 2, 0, 0, 2, noneOf(2), entry)))
	s.delivers("the index of the lost call is done at 1", 3, told(tells(4, 1, 2, 2, true, 2)), applies(1, 2, 2, entry), waiting(later))
	s.falls("1 goes down", 1, waiting())
}

// Who goes down waits no more, and what was called is not replied, though it is
// done later.
func TestStoryOfACallWhoseNodeGoesDown(t *testing.T) {
	for _, cut := range []bool{false, true} {
		s := leadOfThree(t)
		open := commandEntry(1, openNew())
		call := s.place()
		s.calls("open", 1, openNew(), told(asks(3, 1, 2, 1, 0, 0, 0, noneOf(1), open), asks(3, 1, 3, 1, 0, 0, 0, noneOf(1), open)), waiting(waitOf(1, 2, 1, call)))
		if cut {
			s.goes("the power goes", cutEvent(tickEvent(1, 3), 0, 0), 3, waiting(), func(w *impl.World) { w.Up[0] = false })
		} else {
			s.falls("down", 1, waiting())
		}
		s.comesUp("up", 1, 1)
		s.drops("gone", 0)
		s.drops("gone", 0)
		s.delivers("2 has both", 0, told(tells(4, 2, 1, 1, true, 2)))
		s.delivers("it leads no more", 1, nil)
		s.ticks("it stands", 1, told(asks(1, 1, 2, 2, 2, 1, 0), asks(1, 1, 3, 2, 2, 1, 0)))
		s.delivers("2 votes", 1, told(tells(2, 2, 1, 2, true, 0)))
		ask := asks(3, 1, 2, 2, 2, 1, 0, noneOf(2))
		s.delivers("it leads", 2, told(ask, asks(3, 1, 3, 2, 2, 1, 0, noneOf(2))), leads(1, 2, logOf(0, 0, noneOf(1), open, noneOf(2))))
		s.delivers("2 has all", 2, told(tells(4, 2, 1, 2, true, 3)))
		s.delivers("all is done, and nobody waits", 3, nil, applies(1, 2, 1, noneOf(1)), applies(1, 2, 2, open), applies(1, 2, 3, noneOf(2)))
	}
}

// Two calls wait on two nodes for one index; each is settled by its own node.
func TestStoryOfTwoThatWait(t *testing.T) {
	s := newStory(t, 2, 1, 2)
	s.soon(1)
	s.ticks("it stands", 1, told(asks(1, 1, 2, 1, 0, 0, 0)))
	s.delivers("2 votes", 0, told(tells(2, 2, 1, 1, true, 0)))
	s.delivers("it leads", 0, told(asks(3, 1, 2, 1, 0, 0, 0, noneOf(1))), leads(1, 1, logOf(0, 0, noneOf(1))))
	open, put := commandEntry(1, openNew()), putOf(1, 1, "a", "x")
	first, second := s.place(), s.place()+1
	s.calls("open", 1, openNew(), told(asks(3, 1, 2, 1, 0, 0, 0, noneOf(1), open)), waiting(waitOf(1, 2, 1, first)))
	s.calls("put", 1, put, told(asks(3, 1, 2, 1, 0, 0, 0, noneOf(1), open, commandEntry(1, put))), waiting(waitOf(1, 2, 1, first), waitOf(1, 3, 1, second)))
	s.delivers("2 has all three", 2, told(tells(4, 2, 1, 1, true, 3)))
	s.delivers("both are replied, in order", 2, nil,
		applies(1, 1, 1, noneOf(1)), applies(1, 1, 2, open), applies(1, 1, 3, commandEntry(1, put)),
		replies(first, 2, openNew(), "open 1"), replies(second, 3, put, "put"), waiting())
	s.calls("one more", 1, put, told(asks(3, 1, 2, 1, 3, 1, 3, commandEntry(1, put))), waiting(waitOf(1, 4, 1, s.place())))
}

// A conf is no call: nobody waits for it.
func TestStoryOfConfs(t *testing.T) {
	s := newStory(t, 3, 1)
	s.soon(1)
	s.ticks("it leads", 1, nil, leads(1, 1, logOf(0, 0, noneOf(1))), applies(1, 1, 1, noneOf(1)))
	s.stays("two nodes at once", confEvent(1, 1, 2, 3), 2)
	s.stays("another node", confEvent(1, 2), 2)
	two := confOf(1, "\x01\x02")
	s.confs("2 is added", 1, numbers(1, 2), told(asks(3, 1, 2, 1, 1, 1, 1, two)))
	s.stays("one is still open", confEvent(1, 1, 2, 3), 2)
	s.delivers("2 has nothing ahead of it", 0, told(tells(4, 2, 1, 1, false, 0)))
	s.delivers("all from the first on", 0, told(asks(3, 1, 2, 1, 0, 0, 1, noneOf(1), two)))
	s.delivers("2 has both", 0, told(tells(4, 2, 1, 1, true, 2)), applies(2, 1, 1, noneOf(1)))
	s.delivers("the conf is done", 0, nil, applies(1, 1, 2, two))
	one := confOf(1, "\x02")
	s.confs("1 is taken out", 1, numbers(2), told(asks(3, 1, 2, 1, 2, 1, 2, one)))
	s.calls("it leads still", 1, openNew(), told(asks(3, 1, 2, 1, 2, 1, 2, one, commandEntry(1, openNew()))), waiting(waitOf(1, 4, 1, s.place())))
	s.delivers("2 has the conf", 0, told(tells(4, 2, 1, 1, true, 3)), applies(2, 1, 2, two))
	s.delivers("1 is out, and leads no more", 1, nil, applies(1, 1, 3, one))
	s.stays("so it takes no call", callEvent(1, openNew()), 2)
	s.soon(2)
	s.drops("lost", 0)
	s.ticks("2 leads alone", 2, nil, leads(2, 2, logOf(0, 0, noneOf(1), two, one, noneOf(2))), applies(2, 2, 3, one), applies(2, 2, 4, noneOf(2)))
	s.confs("1 is added again", 2, numbers(1, 2), told(asks(3, 2, 1, 2, 4, 2, 4, confOf(2, "\x01\x02"))))
	s.delivers("1 has another entry there", 0, told(tells(4, 1, 2, 2, false, 3)))
	s.delivers("what it has not", 0, told(asks(3, 2, 1, 2, 3, 1, 4, noneOf(2), confOf(2, "\x01\x02"))))
	s.delivers("the call of the same index is lost", 0, told(tells(4, 1, 2, 2, true, 5)), applies(1, 2, 4, noneOf(2)), waiting())
	s.delivers("the conf is done", 0, nil, applies(2, 2, 5, confOf(2, "\x01\x02")))
}

// Who lags is shipped a segment, piece by piece: what it has is applied nowhere
// anew.
func TestStoryOfASegmentThatIsShipped(t *testing.T) {
	s := newStory(t, 2, 1)
	s.soon(1)
	s.ticks("it leads", 1, nil, leads(1, 1, logOf(0, 0, noneOf(1))), applies(1, 1, 1, noneOf(1)))
	s.calls("open", 1, openNew(), nil, applies(1, 1, 2, commandEntry(1, openNew())), replies(s.place(), 2, openNew(), "open 1"))
	for seq := 1; seq <= 4; seq++ {
		c := putOf(1, seq, fmt.Sprint("key", seq), "a long value")
		s.calls("put", 1, c, nil, applies(1, 1, 2+seq, commandEntry(1, c)), replies(s.place(), 2+seq, c, "put"))
	}
	s.serves("a merge", mergeEvent(1), 1, mergeInput(), nil)
	two := confOf(1, "\x01\x02")
	s.confs("2 is added", 1, numbers(1, 2), told(asks(3, 1, 2, 1, 6, 1, 6, two)))
	s.delivers("2 has nothing ahead of it", 0, told(tells(4, 2, 1, 1, false, 0)))
	state := []impl.Pair{{Key: "kkey1", Value: "a long value"}, {Key: "kkey2", Value: "a long value"}, {Key: "kkey3", Value: "a long value"}, {Key: "kkey4", Value: "a long value"}, {Key: "n", Value: "2"}, {Key: "s1", Value: "4 6 put"}}
	snap := mergedSegment(state, 6)
	if len(snap) < 61 || len(snap) > 120 {
		t.Fatalf("the segment has %d bytes", len(snap))
	}
	piece := func(from int) impl.Message {
		m := ships(1, 2, 1, 6, 1, from, 1)
		m.Data, m.Last = snap[from:min(from+60, len(snap))], from > 0
		return m
	}
	s.delivers("it is shipped the segment", 0, told(piece(0)))
	staged := tells(6, 2, 1, 1, false, 6)
	staged.Commit = 60
	s.delivers("a piece comes", 0, told(staged))
	s.goes("a copy", copyEvent(0), 0, func(w *impl.World) { w.Net = append(w.Net, staged) })
	s.delivers("the next piece", 0, told(piece(60)))
	s.delivers("and again", 0, told(piece(60)))
	s.delivers("it is installed", 0, told(tells(6, 2, 1, 1, true, 6)))
	wantShelfMap(t, "installed", s.want.Servers[1].Disk, s.want.Servers[1].Shelf, state)
	s.delivers("it is there", 0, told(tells(6, 2, 1, 1, true, 6)))
	s.delivers("2 has it", 0, told(asks(3, 1, 2, 1, 6, 1, 6, two)))
	s.delivers("2 has it, told again", 0, told(asks(3, 1, 2, 1, 6, 1, 6, two)))
	s.delivers("the conf comes", 0, told(tells(4, 2, 1, 1, true, 7)))
	s.delivers("it is done", 1, nil, applies(1, 1, 7, two))
	s.ticks("2 is reminded", 1, told(asks(3, 1, 2, 1, 7, 1, 7)))
	s.delivers("2 does it, too", 1, told(tells(4, 2, 1, 1, true, 7)), applies(2, 1, 7, two))
}
