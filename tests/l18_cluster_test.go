package tests

import (
	"fmt"
	"math"
	"slices"
	"testing"

	"loop.example/g00103/impl"
)

// ran is what RunCluster answers.
type ran struct {
	world   impl.World
	numbers []int
	ok      bool
}

func ranOf(nodes int, conf []int, events ...impl.Event) ran {
	w, numbers, ok := impl.RunCluster(nodes, conf, events)
	return ran{w, numbers, ok}
}

func tickEvent(node, limit int) impl.Event {
	return impl.Event{Kind: impl.EvTick, Node: node, Limit: limit}
}

func deliverEvent(at int) impl.Event { return impl.Event{Kind: impl.EvDeliver, Node: 1, At: at} }

func dropEvent(at int) impl.Event { return impl.Event{Kind: impl.EvDrop, Node: 1, At: at} }

func copyEvent(at int) impl.Event { return impl.Event{Kind: impl.EvCopy, Node: 1, At: at} }

func callEvent(node int, c impl.Command) impl.Event {
	return impl.Event{Kind: impl.EvCall, Node: node, Command: c}
}

func confEvent(node int, conf ...int) impl.Event {
	return impl.Event{Kind: impl.EvConf, Node: node, Conf: conf}
}

func mergeEvent(node int) impl.Event { return impl.Event{Kind: impl.EvMerge, Node: node} }

func downEvent(node int) impl.Event { return impl.Event{Kind: impl.EvDown, Node: node} }

func upEvent(node, limit int) impl.Event {
	return impl.Event{Kind: impl.EvUp, Node: node, Limit: limit}
}

func eventWith(e impl.Event, change func(e *impl.Event)) impl.Event {
	change(&e)
	return e
}

// cutEvent is an event amid whose raw writes the power goes.
func cutEvent(e impl.Event, whole, part int) impl.Event {
	e.Cut, e.Whole, e.Part = true, whole, part
	return e
}

// ofEachEvent are ordinary events by Kind, right in a world of one node.
func ofEachEvent() map[int]impl.Event {
	return map[int]impl.Event{
		1: tickEvent(1, 5),
		2: deliverEvent(0),
		3: dropEvent(0),
		4: copyEvent(0),
		5: callEvent(1, putOf(1, 1, "a", "x")),
		6: confEvent(1, 1),
		7: mergeEvent(1),
		8: downEvent(1),
		9: upEvent(1, 5),
	}
}

func sameLeader(a, b impl.Leader) bool {
	return a.Node == b.Node && a.Term == b.Term && sameLog(a.Log, b.Log)
}

func sameWorld(a, b impl.World) bool {
	return slices.Equal(a.Up, b.Up) && slices.EqualFunc(a.Servers, b.Servers, sameServer) &&
		slices.EqualFunc(a.Net, b.Net, sameMessage) && slices.Equal(a.Waits, b.Waits) &&
		slices.EqualFunc(a.Leaders, b.Leaders, sameLeader) &&
		slices.Equal(a.Applied, b.Applied) && slices.Equal(a.Replies, b.Replies)
}

func sameRan(a, b ran) bool {
	return a.ok == b.ok && slices.Equal(a.numbers, b.numbers) && sameWorld(a.world, b.world)
}

func shortWorld(w impl.World) string {
	text := fmt.Sprint("up ", w.Up, " waits ", w.Waits)
	for _, s := range w.Servers {
		text += "\n  server " + shortServer(s)
	}
	for _, m := range w.Net {
		text += "\n  net " + shortMessage(m)
	}
	for _, l := range w.Leaders {
		text += fmt.Sprint("\n  leader ", l.Node, " in ", l.Term, " ", shortLog(l.Log))
	}
	for _, a := range w.Applied {
		text += fmt.Sprint("\n  applied by ", a.Node, " in ", a.Term, " at ", a.Index, " ", shortEntry(a.Entry))
	}
	for _, r := range w.Replies {
		text += fmt.Sprintf("\n  reply %d at %d %v %q", r.Call, r.Index, r.Command, r.Text)
	}
	return text
}

func shortEvent(e impl.Event) string { return fmt.Sprintf("%+v", e) }

func shortRan(r ran) string { return fmt.Sprint(r.numbers, " ", r.ok, "\n", shortWorld(r.world)) }

func cloneWorld(w impl.World) impl.World {
	w.Up, w.Servers, w.Net = slices.Clone(w.Up), slices.Clone(w.Servers), slices.Clone(w.Net)
	w.Waits, w.Leaders = slices.Clone(w.Waits), slices.Clone(w.Leaders)
	w.Applied, w.Replies = slices.Clone(w.Applied), slices.Clone(w.Replies)
	return w
}

func wantEvent(t *testing.T, why string, nodes int, e impl.Event, ok bool) {
	t.Helper()
	if impl.EventOk(nodes, e) != ok {
		t.Errorf("%s: EventOk(%d, %s) is %v", why, nodes, shortEvent(e), !ok)
	}
}

func TestClusterConstants(t *testing.T) {
	kinds := numbers(impl.EvTick, impl.EvDeliver, impl.EvDrop, impl.EvCopy, impl.EvCall, impl.EvConf, impl.EvMerge, impl.EvDown, impl.EvUp)
	if impl.MaxEvents != 60 || !slices.Equal(kinds, upTo(1, 9)) {
		t.Error("a constant of clusters is not the document's")
	}
}

func TestEventOkOfEachKind(t *testing.T) {
	for kind, e := range ofEachEvent() {
		for nodes := 1; nodes <= 4; nodes++ {
			wantEvent(t, "ordinary", nodes, e, true)
		}
		for _, nodes := range append(farNumbers(), -2, -1, 0, 5, 6, 7) {
			wantEvent(t, "nodes", nodes, e, false)
		}
		for _, other := range append(farNumbers(), -2, -1, 0, 10, 11, 12) {
			wantEvent(t, "no Kind", 1, eventWith(e, func(e *impl.Event) { e.Kind = other }), false)
			all := impl.Event{Kind: other, Node: 1, Limit: 5, Command: openNew(), Conf: numbers(1)}
			wantEvent(t, "no Kind, all else right", 4, all, false)
		}
		if e.Kind != kind {
			t.Errorf("the Kind %d is %d", kind, e.Kind)
		}
	}
	wantEvent(t, "zero", 1, impl.Event{}, false)
	wantEvent(t, "zero", 0, impl.Event{}, false)
}

func TestEventOkOfNodesAndPlaces(t *testing.T) {
	for kind, e := range ofEachEvent() {
		for nodes := 1; nodes <= 4; nodes++ {
			for _, node := range append(farNumbers(), -2, -1, 0, 1, 2, 3, 4, 5, 6) {
				other := eventWith(e, func(e *impl.Event) { e.Node = node })
				wantEvent(t, fmt.Sprint("Node, Kind ", kind), nodes, other, among(node, 1, nodes))
			}
			for _, at := range append(farNumbers(), -2, -1, 0, 1, 2, 59, 60, 61, 100000, math.MaxInt) {
				other := eventWith(e, func(e *impl.Event) { e.At = at })
				wantEvent(t, fmt.Sprint("At, Kind ", kind), nodes, other, at >= 0)
			}
			for _, limit := range append(farNumbers(), -2, -1, 0, 1, 2, 19, 20, 21, 22) {
				other := eventWith(e, func(e *impl.Event) { e.Limit = limit })
				wantEvent(t, fmt.Sprint("Limit, Kind ", kind), nodes, other, kind != 1 && kind != 9 || among(limit, 1, 20))
			}
			for _, cut := range []bool{false, true} {
				for _, number := range append(farNumbers(), -1, 0, 1, 60, 61) {
					other := eventWith(e, func(e *impl.Event) { e.Cut, e.Whole, e.Part = cut, number, -number })
					wantEvent(t, fmt.Sprint("Cut, Kind ", kind), nodes, other, true)
				}
			}
		}
	}
}

func TestEventOkOfCommands(t *testing.T) {
	d := &drawing{state: 181}
	right, wrong := 0, 0
	for kind, e := range ofEachEvent() {
		with := func(c impl.Command) impl.Event { return eventWith(e, func(e *impl.Event) { e.Command = c }) }
		for why, c := range rightCommands() {
			wantEvent(t, why, 1, with(c), true)
		}
		wantEvent(t, "no command", 1, with(impl.Command{}), kind != 5)
		for op := -1; op <= 6; op++ {
			c := impl.Command{Op: op, Session: 1, Seq: 1, Key: "a"}
			wantEvent(t, fmt.Sprint("Op ", op), 1, with(c), kind != 5 || among(op, 2, 5))
		}
		for why, change := range map[string]func(c *impl.Command){
			"no Key":             func(c *impl.Command) { c.Key = "" },
			"a Key of MaxKey":    func(c *impl.Command) { c.Key = letters(10) },
			"a Value of 13":      func(c *impl.Command) { c.Value = letters(13) },
			"an Old of 13":       func(c *impl.Command) { c.Op, c.Old = 5, letters(13) },
			"an Old of a put":    func(c *impl.Command) { c.Old = "x" },
			"a Session below 0":  func(c *impl.Command) { c.Session = -1 },
			"a Session too much": func(c *impl.Command) { c.Session = 100001 },
			"a Seq below 0":      func(c *impl.Command) { c.Seq = -1 },
			"a Seq too great":    func(c *impl.Command) { c.Seq = 100001 },
		} {
			wantEvent(t, why, 1, with(commandWith(putOf(1, 1, "a", "x"), change)), kind != 5)
		}
		for range 600 {
			c := spoiledCommand(d, drawnCommand(d))
			ok := plainCommandOk(c)
			wantEvent(t, "spoiled", 1, with(c), kind != 5 || ok)
			if ok {
				right++
			} else {
				wrong++
			}
		}
	}
	if right < 300 || wrong < 300 {
		t.Errorf("%d spoiled commands are right, %d are not", right, wrong)
	}
}

// confWithinNodes is the document's rule of a conf among so many nodes.
func confWithinNodes(nodes int, conf []int) bool {
	return plainConfOk(conf) && !slices.ContainsFunc(conf, func(id int) bool { return id > nodes })
}

func TestEventOkOfConfs(t *testing.T) {
	confs := append(listsOf(5, 0, 1, 2, 3, 4, 5), []int{}, numbers(math.MinInt), numbers(math.MaxInt), numbers(-1, 1), numbers(1, math.MaxInt), upTo(1, 200))
	for kind, e := range ofEachEvent() {
		for nodes := 1; nodes <= 4; nodes++ {
			for _, conf := range confs {
				other := eventWith(e, func(e *impl.Event) { e.Conf = conf })
				wantEvent(t, fmt.Sprint("Conf, Kind ", kind), nodes, other, kind != 6 || confWithinNodes(nodes, conf))
			}
		}
	}
}

// newWorld is the world that is to begin, written out.
func newWorld(nodes int, conf []int) impl.World {
	man := manifestOf(numbers(0), 1, 0, 0, conf)
	disk := diskOf("g0", "", "log", plainFrame("S\x00\x00"), "m", plainManifestText(man))
	var w impl.World
	for id := 1; id <= nodes; id++ {
		w.Up = append(w.Up, true)
		w.Servers = append(w.Servers, impl.Server{
			Node:  impl.Node{Id: id, Conf: conf, Limit: 20},
			Disk:  disk,
			Shelf: impl.Shelf{Man: man},
		})
	}
	return w
}

// worldsToTry are numbers of nodes and confs, right and wrong.
func worldsToTry(each func(nodes int, conf []int, ok bool)) {
	confs := append(listsOf(5, 0, 1, 2, 3, 4, 5), []int{}, numbers(math.MinInt), numbers(math.MaxInt), numbers(-1, 1), upTo(1, 200))
	for _, nodes := range append(farNumbers(), -2, -1, 0, 1, 2, 3, 4, 5, 6) {
		for _, conf := range confs {
			each(nodes, conf, among(nodes, 1, 4) && confWithinNodes(nodes, conf))
		}
	}
}

func TestWorldNew(t *testing.T) {
	right := 0
	worldsToTry(func(nodes int, conf []int, ok bool) {
		w, was := impl.WorldNew(nodes, conf)
		want := impl.World{}
		if ok {
			want = newWorld(nodes, conf)
			right++
		}
		if was != ok || !sameWorld(w, want) {
			t.Errorf("WorldNew(%d, %v) = %s, %v; want %s, %v", nodes, conf, shortWorld(w), was, shortWorld(want), ok)
		}
		for _, s := range w.Servers {
			wantServer(t, "of a new world", s, true)
		}
	})
	if right != 1+3+7+15 {
		t.Errorf("%d worlds are right", right)
	}
}

func TestRunClusterOfNoEvents(t *testing.T) {
	worldsToTry(func(nodes int, conf []int, ok bool) {
		for _, events := range [][]impl.Event{nil, {}, []impl.Event{deliverEvent(0)}[:0]} {
			got := ranOf(nodes, conf, events...)
			want := ran{}
			if ok {
				want = ran{world: newWorld(nodes, conf), ok: true}
			}
			if !sameRan(got, want) {
				t.Errorf("RunCluster(%d, %v, no events) = %s; want %s", nodes, conf, shortRan(got), shortRan(want))
			}
		}
		if got := ranOf(nodes, conf, dropEvent(3)); got.ok != ok || !ok && !sameRan(got, ran{}) || ok && !slices.Equal(got.numbers, numbers(1)) {
			t.Errorf("RunCluster(%d, %v, a drop) = %s", nodes, conf, shortRan(got))
		}
	})
}

func TestRunClusterOfManyEvents(t *testing.T) {
	for count, ok := range map[int]bool{1: true, 59: true, 60: true, 61: false, 62: false, 120: false, 1000: false} {
		var events []impl.Event
		var wanted []int
		for at := range count {
			events = append(events, []impl.Event{downEvent(2), upEvent(2, 4), dropEvent(at), mergeEvent(2)}[at%4])
			wanted = append(wanted, []int{0, 0, 1, 0}[at%4])
		}
		got := ranOf(2, numbers(1, 2), events...)
		if !ok {
			if !sameRan(got, ran{}) {
				t.Errorf("%d events: %s", count, shortRan(got))
			}
			continue
		}
		want := newWorld(2, numbers(1, 2))
		want.Up[1] = (count-1)%4 != 0
		if count > 1 {
			want.Servers[1].Node.Limit = 4
		}
		if !sameRan(got, ran{want, wanted, true}) {
			t.Errorf("%d events: %s", count, shortRan(got))
		}
	}
}

// wrongEvents are not right in a world of two nodes.
func wrongEvents() map[string]impl.Event {
	return map[string]impl.Event{
		"zero":                    {},
		"a Kind too great":        {Kind: 10, Node: 1, Limit: 5},
		"a Kind below 0":          {Kind: -1, Node: 1},
		"no Node":                 tickEvent(0, 5),
		"a Node above nodes":      tickEvent(3, 5),
		"no Limit":                tickEvent(1, 0),
		"a Limit too great":       upEvent(1, 21),
		"At below 0":              deliverEvent(-1),
		"At below 0 of a tick":    eventWith(tickEvent(1, 5), func(e *impl.Event) { e.At = -1 }),
		"no command":              callEvent(1, impl.Command{}),
		"a command without a Key": callEvent(1, putOf(1, 1, "", "x")),
		"no conf":                 confEvent(1),
		"a conf above nodes":      confEvent(1, 1, 3),
		"a conf that falls":       confEvent(1, 2, 1),
		"a cut of none":           cutEvent(impl.Event{}, 0, 0),
	}
}

func TestRunClusterOfEventsThatAreNotRight(t *testing.T) {
	right := []impl.Event{tickEvent(1, 3), downEvent(1), upEvent(1, 1), tickEvent(1, 3), deliverEvent(0), callEvent(1, openNew()), mergeEvent(2)}
	if got := ranOf(2, numbers(1, 2), right...); !got.ok {
		t.Errorf("the right ones: %s", shortRan(got))
	}
	for why, e := range wrongEvents() {
		wantEvent(t, why, 2, e, false)
		for at := range len(right) + 1 {
			if got := ranOf(2, numbers(1, 2), slices.Insert(slices.Clone(right), at, e)...); !sameRan(got, ran{}) {
				t.Errorf("%s at %d: %s", why, at, shortRan(got))
			}
		}
		if got := ranOf(2, numbers(1, 2), slices.Repeat([]impl.Event{e}, 60)...); !sameRan(got, ran{}) {
			t.Errorf("%s, sixty times: %s", why, shortRan(got))
		}
		if got := ranOf(2, numbers(1, 2), slices.Repeat([]impl.Event{e}, 61)...); !sameRan(got, ran{}) {
			t.Errorf("%s, too often: %s", why, shortRan(got))
		}
	}
}
