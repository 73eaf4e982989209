package tests

import (
	"fmt"
	"math"
	"slices"
	"strings"
	"testing"

	"loop.example/g00103/impl"
)

// passedOver are lines that tell nothing.
func passedOver() []string {
	return []string{
		"", " ", "     ", strings.Repeat(" ", 600), "#", "##", " #", "   # ", "# a remark", "#a remark", "  #   a   remark  ", "# tick 1 1", "#tick 1 1", "#cluster 4 1234", "# cluster 4 1234", "#-", "#!", "# #", "#power 1 2 tick 1 1",
		"# 2 3 4 5 6 7 8 9 10", "#" + strings.Repeat("x", 599), strings.Repeat(" ", 599) + "#", "#~ ~",
	}
}

// notPlain are lines that PartsOf refuses.
func notPlain() []string {
	return []string{
		"# 2 3 4 5 6 7 8 9 10 11", "#2 3 4 5 6 7 8 9 10 11 12", "#" + strings.Repeat("x", 600), strings.Repeat(" ", 601), strings.Repeat(" ", 600) + "#", strings.Repeat("# ", 300),
		"\x00", "\t", "\r", "\x7f", "\x80", "\xff", "\u00e9", "\u2028", "\ufffd", "#\x00", "#\t", "# a\tremark", "# a remark\r", "#\x7f", "# a remark\x80", "# \u00e9t\u00e9", "#\xff", "  \x1f", " \r", "\x1b[0m", "\ufeff", "\ufeff#",
		"tick 1 1\r", "tick 1 1\x00", "tick 1\t1", "t\u00efck 1 1", "\xc3tick 1 1", "tick 1 1\xc3", "drop 1 # 3 4 5 6 7 8 9 10 11", "power 1 2 swap 1 8 9 a x y z", "put 1 1 1 \u00e9 x", "put 1 1 1 a\xe2 x", "put 1 1 1 a \xe2\x82",
		"cluster 4 1234\r", "cluster 4 1234 \x00", "cl\u00fcster 4 1234", "cluster 4 1234" + strings.Repeat(" ", 587),
	}
}

func TestLinesThatArePassedOver(t *testing.T) {
	for _, line := range passedOver() {
		for _, count := range []int{1, 2, 3} {
			some := strings.Repeat(line+"\n", count)
			for why, text := range map[string]string{
				"ahead":        some + four + "drop 5\ntick 1 2\n",
				"behind first": four + some + "drop 5\ntick 1 2\n",
				"between":      four + "drop 5\n" + some + "tick 1 2\n",
				"last":         four + "drop 5\ntick 1 2\n" + some,
				"last, open":   four + "drop 5\ntick 1 2\n" + strings.TrimSuffix(some, "\n"),
			} {
				wantEvents(t, why, text, dropEvent(5), tickEvent(1, 2))
			}
			wantFault(t, "nothing else", some, 1)
			wantFault(t, "nothing else, open", strings.TrimSuffix(some, "\n"), 1)
			wantFault(t, "ahead of a fault", some+"x\n"+four, count+1)
			wantFault(t, "ahead of a fault, behind the first", some+four+"x\n", count+2)
			wantFault(t, "behind the first, ahead of a fault", four+some+"x\n", count+2)
			wantFault(t, "all about, ahead of a fault", some+four+some+"drop 5\n"+some+"x\n"+some, 3*count+3)
		}
	}
}

func TestRemarksAreWholeLines(t *testing.T) {
	for _, line := range []string{
		"tick 1 1 # a remark", "tick 1 1 #", "tick 1 1#", "tick 1 #1", "tick# 1 1", "tick # 1 1", "- # a remark", "; a remark", "// a remark", "tick 1 1 ;", "-", "- -", "*", "\"#\"",
	} {
		wantNoLine(t, "no remark", line)
		wantFault(t, "no remark, first", line+"\n"+four, 1)
	}
	wantFault(t, "behind the first line", "cluster 4 1234 # a remark\n", 1)
	wantFault(t, "behind the first line", "cluster 4 1234 #\n", 1)
	wantFault(t, "behind the first line", "cluster 4 1234#\n", 1)
	wantFault(t, "behind the first line", "cluster 4 #1234\n", 1)
}

func TestLinesThatPartsOfRefuses(t *testing.T) {
	for _, line := range notPlain() {
		wantFault(t, "alone", line, 1)
		wantFault(t, "first", line+"\n"+four, 1)
		wantFault(t, "behind what is passed over", "\n#\n"+line+"\n"+four, 3)
		wantFault(t, "behind what is passed over, nothing else", "\n#\n"+line, 3)
		wantFault(t, "in the midst", four+"drop 5\n"+line+"\ndrop 6\n", 3)
		wantFault(t, "last", four+"drop 5\n"+line+"\n", 3)
		wantFault(t, "last, open", four+"drop 5\n"+line, 3)
		wantFault(t, "twice", four+line+"\n"+line, 2)
		wantFault(t, "behind another fault", four+"drop\n"+line, 2)
		wantFault(t, "ahead of another fault", four+line+"\ndrop\n", 2)
		wantFault(t, "behind another fault, first", "drop\n"+line, 1)
		wantFault(t, "in the midst of what is passed over", four+"# \n\n"+line+"\n#\n", 4)
	}
}

// A byte that is no plain one makes a fault, wherever in a line it stands.
func TestEveryByteOfLines(t *testing.T) {
	for b := range 256 {
		one := string([]byte{byte(b)})
		plain := b >= 32 && b <= 126
		for why, text := range map[string]string{
			"of a KEY":       four + "get 1 1 1 a" + one + "\n",
			"of a VALUE":     four + "put 1 1 1 a x" + one + "y\n",
			"of an OLD":      four + "swap 1 1 1 a x" + one + " y\n",
			"of a remark":    four + "# a" + one + "\n",
			"of a remark, 2": "#" + one + "\n" + four,
		} {
			got := readOf(text)
			wantPlainScript(t, why, text)
			if (got.fault == 0) != (plain && (b != 32 || why != "of a VALUE")) && b != '\n' {
				t.Errorf("%s: ReadScript(%q) has the fault %d", why, text, got.fault)
			}
		}
		for why, text := range map[string]string{
			"a first word":           four + one + " 1 1\n",
			"amid a first word":      four + "ti" + one + "ck 1 1\n",
			"behind a first word":    four + "tick" + one + " 1 1\n",
			"ahead of a first word":  four + one + "tick 1 1\n",
			"alone":                  four + one + "\n",
			"last":                   four + "drop 1" + one,
			"ahead of all":           one + four,
			"behind the first line":  "cluster 4 1234" + one + "\n",
			"in the place of an end": "cluster 4 1234" + one + "drop 1" + one,
			"of a number":            four + "drop 1" + one + "1\n",
			"of a conf":              four + "conf 1 1" + one + "\n",
		} {
			wantPlainScript(t, why, text)
		}
	}
}

func TestEndsOfScripts(t *testing.T) {
	for _, l := range allLines() {
		wantEvents(t, "with the last end", four+l.line+"\n", l.event)
		wantEvents(t, "without the last end", four+l.line, l.event)
		wantEvents(t, "with one end more", four+l.line+"\n\n", l.event)
		wantEvents(t, "with a blank behind", four+l.line+"\n ", l.event)
	}
	wantEvents(t, "the first line alone", "cluster 4 1234\n")
	wantEvents(t, "the first line alone, open", "cluster 4 1234")
	wantEvents(t, "the first line late", "\n\n\ncluster 4 1234")
	wantFault(t, "nothing", "", 1)
	for count := 1; count <= 90; count++ {
		wantFault(t, "line ends", strings.Repeat("\n", count), 1)
		wantFault(t, "remarks", strings.Repeat("#\n", count), 1)
		wantFault(t, "remarks, open", strings.Repeat("#\n", count-1)+"#", 1)
		wantEvents(t, "line ends and the first line", strings.Repeat("\n", count-1)+"cluster 4 1234")
		wantFault(t, "line ends and a fault", strings.Repeat("\n", count-1)+"x", count)
	}
	for _, end := range []string{"\r\n", "\r", "\x00", "\u2028", "\u0085", "\v", "\f", ";", "\\n"} {
		wantFault(t, "another end", "cluster 4 1234"+end+"drop 1"+end, 1)
		wantFault(t, "another end of the second line", four+"drop 1"+end, 2)
	}
	wantFault(t, "a first line in two", "cluster 4\n1234\n", 1)
	wantFault(t, "a line in two", four+"drop\n1\n", 2)
	wantFault(t, "an end that is not there", four+"drop 1 drop 2\n", 2)
}

func TestFirstLines(t *testing.T) {
	for text, conf := range confOfFigures() {
		for nodes := range 7 {
			script := fmt.Sprintf("cluster %d %s\ndown 1\n", nodes, text)
			if among(nodes, conf[len(conf)-1], 4) {
				wantScript(t, "a first line", script, scriptRead{nodes, conf, []impl.Event{downEvent(1)}, 0})
				if w, ok := impl.WorldNew(nodes, conf); !ok || len(w.Servers) != nodes {
					t.Errorf("WorldNew(%d, %v) is false", nodes, conf)
				}
			} else {
				wantFault(t, "no first line", script, 1)
				wantFault(t, "no first line behind others", "#\n\n"+script, 3)
			}
		}
	}
	for _, word := range noNumbers() {
		wantFault(t, "no number", "cluster "+word+" 1\n", 1)
	}
	for _, line := range []string{
		"cluster", "cluster 1", "cluster 12", "cluster 1 1 1", "cluster 1 1 -", "cluster 1 1 #", "cluster - 1", "cluster 1 -", "cluster 2 1 2", "cluster 2 12 ,", "cluster 4 1234 1", "cluster 1 1 drop 1", "cluster cluster 4 1234",
		"clusters 4 1234", "Cluster 4 1234", "CLUSTER 4 1234", "clust 4 1234", "cluster: 4 1234", "cluster, 4 1234", "node 4 1234", "conf 4 1234", "4 1234", "world 4 1234", "cluster 1234 4", "cluster 0 0", "cluster 5 12345", "cluster 1000000000 1", "cluster 1000000001 1",
	} {
		wantFault(t, "no first line", line, 1)
		wantFault(t, "no first line ahead of one", line+"\n"+four, 1)
		wantFault(t, "no first line behind others", "\n \n#\n"+line+"\n"+four, 4)
	}
	for _, l := range allLines() {
		wantFault(t, "an event first", l.line+"\n"+four, 1)
		wantFault(t, "an event alone", l.line, 1)
		wantFault(t, "an event alone behind others", "#\n#\n"+l.line, 3)
	}
}

func TestSecondFirstLines(t *testing.T) {
	for _, line := range []string{"cluster 4 1234", "cluster 1 1", "cluster 2 12", "cluster 5 1", "cluster", "cluster 4 4321", "Cluster 4 1234", "cluster 4 1234 5", "power 1 2 cluster 4 1234"} {
		wantNoLine(t, "a second first line", line)
		wantFault(t, "a second first line, late", four+strings.Repeat("drop 1\n", 60)+line, 62)
		wantFault(t, "a second first line behind another world", "cluster 1 1\n"+line, 2)
	}
}

func TestTheFirstFaultIsTold(t *testing.T) {
	faults := []string{"x", "tick 0 1", "tick 1 21", "drop", "drop 1 1", "put 1 1 1 - x", "conf 1 0", "power 1 2", "cluster 4 1234", "\xff", strings.Repeat(" ", 601), "1 2 3 4 5 6 7 8 9 10 11"}
	for _, first := range faults {
		for _, second := range faults {
			wantFault(t, "two faults", four+"drop 1\n"+first+"\n"+second+"\n", 3)
			wantFault(t, "two faults apart", four+first+"\ndrop 1\n#\n"+second, 2)
		}
	}
}

func TestScriptsOfManyEvents(t *testing.T) {
	lines := func(count int) ([]string, []impl.Event) {
		var list []string
		var events []impl.Event
		for at := range count {
			l := allLines()[at%26]
			list, events = append(list, l.line), append(events, l.event)
		}
		return list, events
	}
	for _, count := range []int{58, 59, 60} {
		list, events := lines(count)
		for _, between := range []string{"\n", " \n", "  \n"} {
			wantEvents(t, "many", four+strings.Join(list, between), events...)
			wantEvents(t, "many, the last end too", four+strings.Join(list, between)+between, events...)
		}
		wantEvents(t, "many, and lines that are passed over", "\n#\n"+four+strings.Join(list, "\n")+strings.Repeat("\n#", 89-2-count), events...)
	}
	for _, count := range []int{61, 62, 80, 89} {
		list, _ := lines(count)
		wantFault(t, "too many", four+strings.Join(list, "\n"), 62)
		wantFault(t, "too many, the last end too", four+strings.Join(list, "\n")+"\n", 62)
		if count < 80 {
			wantFault(t, "too many, and lines ahead", "#\n\n"+four+"#\n"+strings.Join(list, "\n"), 65)
			wantFault(t, "too many, and lines between", four+strings.Join(list[:60], "\n")+"\n\n#\n"+strings.Join(list[60:], "\n"), 64)
		}
	}
	sixty, events := lines(60)
	for _, line := range []string{"x", "tick 1 21", "cluster 4 1234", "\xff", "power 1 2"} {
		wantFault(t, "a fault behind the last one", four+strings.Join(sixty, "\n")+"\n"+line, 62)
		wantFault(t, "a fault ahead of one too many", four+line+"\n"+strings.Join(sixty, "\n")+"\ndrop 1", 2)
		wantFault(t, "a fault behind one too many", four+strings.Join(sixty, "\n")+"\ndrop 1\n"+line, 62)
	}
	for _, line := range passedOver() {
		wantEvents(t, "what is passed over behind the last one", four+strings.Join(sixty, "\n")+"\n"+line+"\n", events...)
	}
}

func TestScriptsOfManyLines(t *testing.T) {
	for _, line := range []string{"", "#", " ", "# a remark"} {
		for count := 86; count <= 94; count++ {
			rest := strings.Repeat(line+"\n", count-2)
			for why, text := range map[string]string{
				"the last end too":       four + "drop 5\n" + rest,
				"open":                   four + rest + "drop 5",
				"the first line last":    "#\n" + rest + strings.TrimSuffix(four, "\n"),
				"the first line, an end": "#\n" + rest + four,
			} {
				events := []impl.Event{dropEvent(5)}
				if strings.HasPrefix(text, "#\n") {
					events = nil
				}
				if count <= 90 {
					wantEvents(t, why, text, events...)
				} else {
					wantFault(t, why, text, -1)
				}
			}
			fault := map[bool]int{true: 1, false: -1}[count <= 90]
			wantFault(t, "nothing else", strings.Repeat(line+"\n", count), fault)
			wantFault(t, "a fault first", "x\n"+strings.Repeat(line+"\n", count-1), fault)
			wantFault(t, "a fault that is not plain first", "\xff\n"+strings.Repeat(line+"\n", count-1), fault)
			wantFault(t, "faults", strings.Repeat("x\n", count), fault)
		}
	}
	// What stands behind the last end is a line of its own, if it is but a blank.
	full := four + "drop 5\n" + strings.Repeat("\n", 88)
	wantEvents(t, "as many as may be", full, dropEvent(5))
	for _, more := range []string{" ", "#", "\n", "x", "\x00", "drop 5"} {
		wantFault(t, "one line more", full+more, -1)
	}
	wantEvents(t, "as many as may be, a blank in the last one", full[:len(full)-1]+" ", dropEvent(5))
}

// scriptOfSize is a right script with a drop, of just so many bytes.
func scriptOfSize(size int, end string) string {
	text := four + "drop 5\n"
	for size-len(text)-len(end) > 601 {
		text += "#" + strings.Repeat("x", 499) + "\n"
	}
	return text + "#" + strings.Repeat("x", size-len(text)-len(end)-1) + end
}

func TestScriptsOfManyBytes(t *testing.T) {
	for _, end := range []string{"", "\n"} {
		for size := 7990; size <= 8010; size++ {
			text := scriptOfSize(size, end)
			wrong := strings.Replace(text, "drop 5", "drop -", 1)
			noFirst := strings.Replace(text, "cluster", "##uster", 1)
			if len(text) != size || len(wrong) != size || len(noFirst) != size {
				t.Fatalf("the script of %d bytes has %d", size, len(text))
			}
			if size <= 8000 {
				wantEvents(t, "many bytes", text, dropEvent(5))
				wantFault(t, "many bytes and a fault", wrong, 2)
				wantFault(t, "many bytes and another first line", noFirst, 2)
			} else {
				wantFault(t, "too many bytes", text, -1)
				wantFault(t, "too many bytes and a fault", wrong, -1)
				wantFault(t, "too many bytes and another first line", noFirst, -1)
			}
		}
	}
	for size, fault := range map[int]int{1: 1, 600: 1, 601: 1, 7999: 1, 8000: 1, 8001: -1, 8002: -1, 16000: -1, 1 << 20: -1} {
		for _, one := range []string{" ", "x", "#", "\x00", "\xff"} {
			wantFault(t, "one line", strings.Repeat(one, size), fault)
		}
		lines := map[bool]int{true: -1, false: fault}[size > 90]
		wantFault(t, "line ends", strings.Repeat("\n", size), lines)
	}
	wantFault(t, "bytes of more than one", strings.Repeat("\u00e9", 4000), 1)
	wantFault(t, "bytes of more than one, and one more", strings.Repeat("\u00e9", 4000)+" ", -1)
	wantFault(t, "too many of both", strings.Repeat(strings.Repeat(" ", 99)+"\n", 91), -1)
}

func wantShown(t *testing.T, why string, w impl.World, want string) {
	t.Helper()
	if plain := plainShow(w); plain != want {
		t.Errorf("%s: the plain rule shows %q; want %q", why, plain, want)
	}
	if got := impl.ShowWorld(w); got != want {
		t.Errorf("%s: ShowWorld = %q; want %q", why, got, want)
	}
}

func TestShowWorld(t *testing.T) {
	reply := func(call int, text string) impl.Reply {
		return impl.Reply{Call: call, Index: 7, Command: putOf(1, 2, "key", "value"), Text: text}
	}
	wantShown(t, "nothing", impl.World{}, "applied 0 leaders 0 net 0\n")
	wantShown(t, "a new one", newWorld(3, numbers(1, 2, 3)), "applied 0 leaders 0 net 0\n")
	wantShown(t, "by hand", handWorld(), "reply 0 open 1\nreply 0 put\nreply 0 gap\nreply 0 put\napplied 5 leaders 3 net 0\n")
	wantShown(t, "a reply", impl.World{Replies: []impl.Reply{reply(3, "open 1")}}, "reply 3 open 1\napplied 0 leaders 0 net 0\n")
	wantShown(t, "an empty Text", impl.World{Replies: []impl.Reply{reply(3, "")}}, "reply 3 \napplied 0 leaders 0 net 0\n")
	wantShown(t, "empty Texts among others", impl.World{Replies: []impl.Reply{reply(3, ""), reply(4, "put"), reply(5, ""), {}}}, "reply 3 \nreply 4 put\nreply 5 \nreply 0 \napplied 0 leaders 0 net 0\n")
	wantShown(t, "in their order", impl.World{Replies: []impl.Reply{reply(9, "b"), reply(2, "c"), reply(9, "a"), reply(2, "c")}}, "reply 9 b\nreply 2 c\nreply 9 a\nreply 2 c\napplied 0 leaders 0 net 0\n")
	wantShown(t, "odd Texts", impl.World{Replies: []impl.Reply{reply(1, " "), reply(1, "got \x00\xff"), reply(1, "a\nreply 2 b"), reply(1, "\u00e9%d\\n")}}, "reply 1  \nreply 1 got \x00\xff\nreply 1 a\nreply 2 b\nreply 1 \u00e9%d\\n\napplied 0 leaders 0 net 0\n")
	wantShown(t, "far Calls", impl.World{Replies: []impl.Reply{reply(math.MaxInt, "a"), reply(math.MinInt, "b"), reply(-1, "c"), reply(0, "d")}}, "reply 9223372036854775807 a\nreply -9223372036854775808 b\nreply -1 c\nreply 0 d\napplied 0 leaders 0 net 0\n")
	wantShown(t, "long Texts", impl.World{Replies: slices.Repeat([]impl.Reply{reply(8, letters(50000))}, 3)}, strings.Repeat("reply 8 "+letters(50000)+"\n", 3)+"applied 0 leaders 0 net 0\n")
	wantShown(t, "numbers that are not alike", impl.World{Applied: make([]impl.Applied, 1), Leaders: make([]impl.Leader, 2), Net: make([]impl.Message, 3)}, "applied 1 leaders 2 net 3\n")
	wantShown(t, "great numbers", impl.World{Applied: make([]impl.Applied, 1000), Leaders: make([]impl.Leader, 70), Net: make([]impl.Message, 123)}, "applied 1000 leaders 70 net 123\n")
	wantShown(t, "lists that are not shown", impl.World{Up: make([]bool, 3), Servers: make([]impl.Server, 5), Waits: make([]impl.Wait, 7)}, "applied 0 leaders 0 net 0\n")
	wantShown(t, "lists of unlike lengths", impl.World{Up: make([]bool, 9), Servers: make([]impl.Server, 1), Net: make([]impl.Message, 1), Replies: []impl.Reply{{}}}, "reply 0 \napplied 0 leaders 0 net 1\n")
	wantShown(t, "empty lists", impl.World{Applied: []impl.Applied{}, Leaders: []impl.Leader{}, Net: []impl.Message{}, Replies: []impl.Reply{}}, "applied 0 leaders 0 net 0\n")
	for count := range 200 {
		w := impl.World{Applied: make([]impl.Applied, 3*count), Leaders: make([]impl.Leader, count), Net: make([]impl.Message, 2*count)}
		want := ""
		for at := range count {
			w.Replies = append(w.Replies, reply(at, fmt.Sprint("got ", at)))
			want += fmt.Sprintf("reply %d got %d\n", at, at)
		}
		wantShown(t, "many", w, want+fmt.Sprintf("applied %d leaders %d net %d\n", 3*count, count, 2*count))
	}
}

func wantConsole(t *testing.T, why string, want string, lines ...string) {
	t.Helper()
	text := strings.Join(lines, "\n")
	for _, end := range []string{"", "\n"} {
		if got := impl.Console(text + end); got != want {
			t.Errorf("%s: Console(%q) = %q; want %q", why, text+end, got, want)
		}
		wantPlainScript(t, why, text+end)
	}
}

func TestConsoleOfFaults(t *testing.T) {
	wantConsole(t, "nothing", "fault 1\n", "")
	wantConsole(t, "no first line", "fault 1\n", "tick 1 1", "cluster 1 1")
	wantConsole(t, "a first line that WorldNew does not take", "fault 1\n", "cluster 1 2")
	wantConsole(t, "the second line", "fault 2\n", "cluster 1 1", "tick 2 1")
	wantConsole(t, "the third line", "fault 3\n", "# a remark", "cluster 1 1", "tick 1 1 1", "tick")
	wantConsole(t, "the last line", "fault 90\n", append(append([]string{"cluster 1 1"}, make([]string, 88)...), "x")...)
	wantConsole(t, "too many lines", "fault -1\n", append(append([]string{"cluster 1 1"}, make([]string, 89)...), "x")...)
	if got := impl.Console(scriptOfSize(8001, "\n")); got != "fault -1\n" {
		t.Errorf("too many bytes: Console = %q", got)
	}
	if got := impl.Console(scriptOfSize(8000, "\n")); got != "1\napplied 0 leaders 0 net 0\n" {
		t.Errorf("as many bytes as may be: Console = %q", got)
	}
}

// Lives told in lines, with what comes of them written out.
func TestConsoleByHand(t *testing.T) {
	wantConsole(t, "no events", "applied 0 leaders 0 net 0\n", "cluster 1 1")
	wantConsole(t, "no events of four", "applied 0 leaders 0 net 0\n", "# four", "cluster 4 1234", "")
	wantConsole(t, "an event", "0\napplied 0 leaders 0 net 0\n", "cluster 1 1", "tick 1 1")
	wantConsole(t, "an event of nothing on the way", "1\napplied 0 leaders 0 net 0\n", "cluster 1 1", "deliver 0")
	wantConsole(t, "who does not lead", "2 2 0\napplied 0 leaders 0 net 0\n", "cluster 2 12", "open 1", "conf 1 1", "merge 2")
	wantConsole(t, "down and up", "0 1 1 0 1\napplied 0 leaders 0 net 0\n", "cluster 2 1", "down 2", "down 2", "tick 2 5", "up 2 20", "up 2 20")
	alone := []string{"cluster 1 1", "down 1", "up 1 1", "tick 1 3"}
	wantConsole(t, "who leads alone", "0 0 0\napplied 1 leaders 1 net 0\n", alone...)
	wantConsole(t, "a session", "0 0 0 0 0 0 0 0 0 0 0 0 0 0\nreply 3 open 1\nreply 4 put\nreply 5 put\nreply 6 got x\nreply 7 kept\nreply 8 swapped\nreply 9 got \nreply 10 cut\nreply 11 none\nreply 12 gap\nreply 13 expired\napplied 12 leaders 1 net 0\n",
		append(alone, "open 1", "put 1 1 1 a x", "put 1 1 1 a x", "get 1 1 2 a", "swap 1 1 3 a y z", "swap 1 1 4 a x -", "get 1 1 5 a", "cut 1 1 6 a", "cut 1 1 7 a", "cut 1 1 9 a", "get 1 2 1 a")...)
	wantConsole(t, "old and new in their order", "0 0 0 0 0 0 0\nreply 3 open 1\nreply 4 swapped\nreply 5 swapped\nreply 6 got new\napplied 5 leaders 1 net 0\n",
		append(alone, "open 1", "swap 1 1 1 a - old", "swap 1 1 2 a old new", "get 1 1 3 a")...)
	wantConsole(t, "a power ahead of all writes", "0 0 0 0 3 1 0 0 0\nreply 3 open 1\nreply 8 put\napplied 4 leaders 2 net 0\n",
		append(alone, "open 1", "power 0 0 put 1 1 1 a x", "tick 1 1", "up 1 1", "tick 1 1", "put 1 1 1 a x")...)
	wantConsole(t, "a power behind all writes", "0 0 0 0 3 1 0 0 0\nreply 3 open 1\nreply 8 put\napplied 5 leaders 2 net 0\n",
		append(alone, "open 1", "power 9 9 put 1 1 1 a x", "tick 1 1", "up 1 1", "tick 1 1", "put 1 1 1 a x")...)
	wantConsole(t, "a merge, and one who is shipped it", "0 0 0 0 0 0 0 0 0 0 0 0 0 1\nreply 3 open 1\nreply 4 put\napplied 4 leaders 1 net 0\n",
		"cluster 2 1", "down 1", "up 1 1", "tick 1 3", "open 1", "put 1 1 1 a x", "merge 1", "conf 1 12",
		"deliver 0", "deliver 0", "deliver 0", "deliver 0", "deliver 0", "deliver 0", "deliver 0")
	three := []string{"cluster 3 123", "down 1", "up 1 1", "tick 1 3", "deliver 0", "deliver 1", "deliver 1", "open 1", "copy 0", "deliver 1"}
	wantConsole(t, "three of whom one leads", "0 0 0 0 0 0 0 0 0\napplied 0 leaders 1 net 6\n", three...)
	wantConsole(t, "three of whom two have the entry", "0 0 0 0 0 0 0 0 0 0 0 0 0 0\nreply 6 open 1\napplied 3 leaders 1 net 4\n",
		append(three, "deliver 1", "deliver 1", "deliver 5", "deliver 4", "drop 0")...)
}
