package tests

import (
	"fmt"
	"regexp"
	"slices"
	"strconv"
	"strings"
	"testing"

	"loop.example/g00103/impl"
)

// scriptRead is what ReadScript answers.
type scriptRead struct {
	nodes  int
	conf   []int
	events []impl.Event
	fault  int
}

func readOf(text string) scriptRead {
	nodes, conf, events, fault := impl.ReadScript(text)
	return scriptRead{nodes, conf, events, fault}
}

func sameEvent(a, b impl.Event) bool {
	alike := slices.Equal(a.Conf, b.Conf)
	a.Conf, b.Conf = nil, nil
	return alike && shortEvent(a) == shortEvent(b) && a.Command == b.Command
}

func sameRead(a, b scriptRead) bool {
	return a.nodes == b.nodes && slices.Equal(a.conf, b.conf) && slices.EqualFunc(a.events, b.events, sameEvent) && a.fault == b.fault
}

// plainParts cuts a line into its parts by the document's rule.
func plainParts(line string) ([]string, bool) {
	parts := strings.FieldsFunc(line, func(r rune) bool { return r == ' ' })
	odd := regexp.MustCompile(`[^\x20-\x7e]`).MatchString(line)
	if odd || len(line) > 600 || len(parts) > 10 {
		return nil, false
	}
	return parts, true
}

// formOf is of a line whose parts stand one blank apart: N is a number, C a conf,
// T a text.
func formOf(form string) *regexp.Regexp {
	form = strings.NewReplacer("N", `(0|[1-9][0-9]{0,9})`, "C", `(1?2?3?4?)`, "T", `([^ ]+)`).Replace(form)
	return regexp.MustCompile("^" + form + "$")
}

var clusterForm = formOf("cluster N C")

var powerForm = formOf("power N N T(.*)")

// eventForm is a row of the document's table.
type eventForm struct {
	form  *regexp.Regexp
	event func(words []string) impl.Event
}

func plainInt(word string) int {
	n, err := strconv.Atoi(word)
	if err != nil {
		return -1
	}
	return n
}

func plainText(word string) string { return map[bool]string{true: "", false: word}[word == "-"] }

func plainFigures(word string) []int {
	var conf []int
	for _, figure := range strings.Split(word, "") {
		conf = append(conf, plainInt(figure))
	}
	return conf
}

var eventForms = formsOfEvents()

func formsOfEvents() []eventForm {
	inCommand := func(op int) func(w []string) impl.Event {
		return func(w []string) impl.Event {
			c := impl.Command{Op: op, Session: plainInt(w[1]), Seq: plainInt(w[2]), Key: plainText(w[3])}
			switch op {
			case 3:
				c.Value = plainText(w[4])
			case 5:
				c.Old, c.Value = plainText(w[4]), plainText(w[5])
			}
			return callEvent(plainInt(w[0]), c)
		}
	}
	return []eventForm{
		{formOf("tick N N"), func(w []string) impl.Event { return tickEvent(plainInt(w[0]), plainInt(w[1])) }},
		{formOf("deliver N"), func(w []string) impl.Event { return deliverEvent(plainInt(w[0])) }},
		{formOf("drop N"), func(w []string) impl.Event { return dropEvent(plainInt(w[0])) }},
		{formOf("copy N"), func(w []string) impl.Event { return copyEvent(plainInt(w[0])) }},
		{formOf("open N"), func(w []string) impl.Event { return callEvent(plainInt(w[0]), openNew()) }},
		{formOf("get N N N T"), inCommand(2)},
		{formOf("cut N N N T"), inCommand(4)},
		{formOf("put N N N T T"), inCommand(3)},
		{formOf("swap N N N T T T"), inCommand(5)},
		{formOf("conf N C"), func(w []string) impl.Event { return confEvent(plainInt(w[0]), plainFigures(w[1])...) }},
		{formOf("merge N"), func(w []string) impl.Event { return mergeEvent(plainInt(w[0])) }},
		{formOf("down N"), func(w []string) impl.Event { return downEvent(plainInt(w[0])) }},
		{formOf("up N N"), func(w []string) impl.Event { return upEvent(plainInt(w[0]), plainInt(w[1])) }},
	}
}

func plainEventOk(nodes int, e impl.Event) bool {
	limit := e.Kind != 1 && e.Kind != 9 || among(e.Limit, 1, 20)
	command := e.Kind != 5 || plainCommandOk(e.Command)
	conf := e.Kind != 6 || confWithinNodes(nodes, e.Conf)
	return among(e.Node, 1, nodes) && e.At >= 0 && limit && command && conf
}

// plainEvent is of a line whose parts stand one blank apart.
func plainEvent(nodes int, line string) (impl.Event, bool) {
	if m := powerForm.FindStringSubmatch(line); m != nil && m[3] != "power" && plainInt(m[1]) <= 1000000000 && plainInt(m[2]) <= 1000000000 {
		e, ok := plainEvent(nodes, m[3]+m[4])
		return cutEvent(e, plainInt(m[1]), plainInt(m[2])), ok
	}
	for _, f := range eventForms {
		if m := f.form.FindStringSubmatch(line); m != nil {
			e := f.event(m[1:])
			return e, plainEventOk(nodes, e) && e.At <= 1000000000
		}
	}
	return impl.Event{}, false
}

func plainClusterLine(line string) (int, []int, bool) {
	m := clusterForm.FindStringSubmatch(line)
	if m == nil {
		return 0, nil, false
	}
	nodes, conf := plainInt(m[1]), plainFigures(m[2])
	return nodes, conf, among(nodes, 1, 4) && confWithinNodes(nodes, conf)
}

// plainReadScript is the document's rule, line by line.
func plainReadScript(text string) scriptRead {
	lines := strings.SplitAfter(text, "\n")
	if last := len(lines) - 1; lines[last] == "" {
		lines = lines[:last]
	}
	if len(text) > 8000 || len(lines) > 90 {
		return scriptRead{fault: -1}
	}
	var s scriptRead
	for at, line := range lines {
		parts, plain := plainParts(strings.TrimSuffix(line, "\n"))
		if plain && (len(parts) == 0 || parts[0][0] == '#') {
			continue
		}
		joined := strings.Join(parts, " ")
		taken := false
		if s.nodes == 0 {
			s.nodes, s.conf, taken = plainClusterLine(joined)
		} else {
			var e impl.Event
			e, taken = plainEvent(s.nodes, joined)
			s.events = append(s.events, e)
		}
		if !plain || !taken || len(s.events) > 60 {
			return scriptRead{fault: at + 1}
		}
	}
	if s.nodes == 0 {
		return scriptRead{fault: 1}
	}
	return s
}

func plainShow(w impl.World) string {
	text := ""
	for _, r := range w.Replies {
		text += fmt.Sprintf("reply %d %s\n", r.Call, r.Text)
	}
	return text + fmt.Sprintf("applied %d leaders %d net %d\n", len(w.Applied), len(w.Leaders), len(w.Net))
}

func plainShowRan(r ran) string {
	if len(r.numbers) == 0 {
		return plainShow(r.world)
	}
	return strings.Trim(fmt.Sprint(r.numbers), "[]") + "\n" + plainShow(r.world)
}

func plainConsole(s scriptRead) string {
	if s.fault != 0 {
		return fmt.Sprintf("fault %d\n", s.fault)
	}
	return plainShowRan(ranOf(s.nodes, s.conf, s.events...))
}

// wantScript asks for this answer of a text, and for what a console makes of it.
func wantScript(t *testing.T, why string, text string, want scriptRead) {
	t.Helper()
	if got := plainReadScript(text); !sameRead(got, want) {
		t.Errorf("%s: the plain rule tells of %q %+v; want %+v", why, text, got, want)
	}
	if got := readOf(text); !sameRead(got, want) {
		t.Errorf("%s: ReadScript(%q) = %+v; want %+v", why, text, got, want)
	}
	if got, shown := impl.Console(text), plainConsole(want); got != shown {
		t.Errorf("%s: Console(%q) = %q; want %q", why, text, got, shown)
	}
}

// wantPlainScript asks for what the plain rule tells.
func wantPlainScript(t *testing.T, why string, text string) scriptRead {
	t.Helper()
	want := plainReadScript(text)
	wantScript(t, why, text, want)
	return want
}

func wantFault(t *testing.T, why string, text string, line int) {
	t.Helper()
	wantScript(t, why, text, scriptRead{fault: line})
}

// wantEvents is of scripts of four nodes, which are the conf.
func wantEvents(t *testing.T, why string, text string, events ...impl.Event) {
	t.Helper()
	wantScript(t, why, text, scriptRead{nodes: 4, conf: upTo(1, 4), events: events})
}

const four = "cluster 4 1234\n"

// wantLine is of one line behind the first one, and of the same amid others.
func wantLine(t *testing.T, why string, line string, e impl.Event) {
	t.Helper()
	wantEvents(t, why, four+line, e)
	wantEvents(t, why, four+"drop 5\n"+line+"\ndrop 6\n", dropEvent(5), e, dropEvent(6))
}

func wantNoLine(t *testing.T, why string, line string) {
	t.Helper()
	wantFault(t, why, four+line, 2)
	wantFault(t, why, four+"drop 5\n"+line+"\ndrop 6\n", 3)
}

// tableLine is a line and its event.
type tableLine struct {
	line  string
	event impl.Event
}

// tableLines has each row of the document's table, no two parts of one line being
// alike.
func tableLines() []tableLine {
	return []tableLine{
		{"tick 2 5", impl.Event{Kind: impl.EvTick, Node: 2, Limit: 5}},
		{"deliver 3", impl.Event{Kind: impl.EvDeliver, Node: 1, At: 3}},
		{"drop 7", impl.Event{Kind: impl.EvDrop, Node: 1, At: 7}},
		{"copy 9", impl.Event{Kind: impl.EvCopy, Node: 1, At: 9}},
		{"open 3", impl.Event{Kind: impl.EvCall, Node: 3, Command: impl.Command{Op: impl.OpOpen}}},
		{"get 4 2 3 a", impl.Event{Kind: impl.EvCall, Node: 4, Command: impl.Command{Op: impl.OpGet, Session: 2, Seq: 3, Key: "a"}}},
		{"cut 3 5 6 bc", impl.Event{Kind: impl.EvCall, Node: 3, Command: impl.Command{Op: impl.OpCut, Session: 5, Seq: 6, Key: "bc"}}},
		{"put 2 7 8 a x", impl.Event{Kind: impl.EvCall, Node: 2, Command: impl.Command{Op: impl.OpPut, Session: 7, Seq: 8, Key: "a", Value: "x"}}},
		{"swap 1 8 9 a x yz", impl.Event{Kind: impl.EvCall, Node: 1, Command: impl.Command{Op: impl.OpSwap, Session: 8, Seq: 9, Key: "a", Old: "x", Value: "yz"}}},
		{"conf 2 134", impl.Event{Kind: impl.EvConf, Node: 2, Conf: []int{1, 3, 4}}},
		{"merge 4", impl.Event{Kind: impl.EvMerge, Node: 4}},
		{"down 3", impl.Event{Kind: impl.EvDown, Node: 3}},
		{"up 2 20", impl.Event{Kind: impl.EvUp, Node: 2, Limit: 20}},
	}
}

// allLines are those of the table, and each with a power ahead of it.
func allLines() []tableLine {
	all := tableLines()
	for _, l := range tableLines() {
		all = append(all, tableLine{"power 11 12 " + l.line, cutEvent(l.event, 11, 12)})
	}
	return all
}

func TestConsoleConstants(t *testing.T) {
	if impl.MaxScript != 8000 || impl.MaxLines != 90 {
		t.Error("a constant of consoles is not the document's")
	}
}

func TestEachLineOfTheTable(t *testing.T) {
	var lines []string
	var events []impl.Event
	for _, l := range allLines() {
		wantLine(t, "ordinary", l.line, l.event)
		lines, events = append(lines, l.line), append(events, l.event)
	}
	wantEvents(t, "all of them", four+strings.Join(lines, "\n"), events...)
	slices.Reverse(lines)
	slices.Reverse(events)
	wantEvents(t, "the last first", four+strings.Join(lines, "\n")+"\n", events...)
	wantEvents(t, "none of them", four)
	wantEvents(t, "each twice", four+strings.Join(append(lines, lines...), "\n"), append(events, events...)...)
}

func TestPartsThatAreTooFewOrTooMany(t *testing.T) {
	for _, l := range append(allLines(), tableLine{line: "cluster 4 1234"}) {
		parts := strings.Split(l.line, " ")
		for count := 1; count < len(parts); count++ {
			few := strings.Join(parts[:count], " ")
			wantNoLine(t, "parts too few", few)
			wantNoLine(t, "parts too few, and a blank", few+" ")
			wantFault(t, "parts too few, first", few, 1)
		}
		for at := 1; at < len(parts); at++ {
			wantNoLine(t, "a part is not there", strings.Join(slices.Delete(slices.Clone(parts), at, at+1), " "))
		}
		for _, more := range []string{"0", "1", "x", "-", "#", "# a remark", "power", "1 2", "tick", l.line} {
			wantNoLine(t, "a part too many", l.line+" "+more)
			wantFault(t, "a part too many, first", l.line+" "+more, 1)
		}
		for _, more := range []string{"0", "1", "x", "-", "-#", "power", "tick", "tick 1", "1 2"} {
			wantNoLine(t, "a part too many ahead", more+" "+l.line)
			wantFault(t, "a part too many ahead, first", more+" "+l.line, 1)
		}
		for at := 1; at < len(parts); at++ {
			wantNoLine(t, "a part twice", strings.Join(slices.Insert(slices.Clone(parts), at, parts[at]), " "))
		}
	}
	// The longest line has just as many parts as PartsOf takes.
	longest := "power 11 12 swap 1 8 9 a x yz"
	if parts := strings.Split(longest, " "); len(parts) != impl.MaxParts {
		t.Errorf("%q has %d parts", longest, len(parts))
	}
}

func TestBlanksBetweenParts(t *testing.T) {
	for _, l := range allLines() {
		for _, line := range []string{
			strings.ReplaceAll(l.line, " ", "  "), strings.ReplaceAll(l.line, " ", "     "), strings.Replace(l.line, " ", "  ", 1),
			" " + l.line, "   " + l.line, l.line + " ", l.line + "    ", "  " + strings.ReplaceAll(l.line, " ", "   ") + "  ",
			l.line + strings.Repeat(" ", 600-len(l.line)), strings.Repeat(" ", 600-len(l.line)) + l.line,
		} {
			wantLine(t, "blanks", line, l.event)
		}
		for _, line := range []string{
			l.line + strings.Repeat(" ", 601-len(l.line)), strings.Repeat(" ", 601-len(l.line)) + l.line,
			strings.ReplaceAll(l.line, " ", "\t"), strings.ReplaceAll(l.line, " ", "\u00a0"), strings.ReplaceAll(l.line, " ", ""),
			strings.ReplaceAll(l.line, " ", ","), l.line + "\t", "\t" + l.line, l.line + "\r", l.line + "\x00", l.line + "\v", "\ufeff" + l.line,
		} {
			wantNoLine(t, "no blanks", line)
		}
	}
	for _, line := range []string{" cluster 4 1234", "cluster  4   1234", "cluster 4 1234 ", "   cluster 4 1234   "} {
		wantEvents(t, "blanks of the first line", line+"\ndrop 1\n", dropEvent(1))
	}
	for _, line := range []string{"cluster\t4 1234", "cluster 4\t1234", "cluster4 1234", "cluster 41234", "cluster 4 1234\r", "cluster 4 12 34"} {
		wantFault(t, "no blanks of the first line", line+"\ndrop 1\n", 1)
	}
}

func TestWordsThatAreMisspelt(t *testing.T) {
	var words []string
	for _, l := range append(tableLines(), tableLine{line: "power 1 2 down 1"}, tableLine{line: "cluster 4 1234"}) {
		word, rest, _ := strings.Cut(l.line, " ")
		words = append(words, word)
		var others []string
		for at := range len(word) {
			others = append(others, word[:at]+word[at+1:], word[:at]+word[at:at+1]+word[at:], word[:at]+"x"+word[at+1:], word[:at]+strings.ToUpper(word[at:at+1])+word[at+1:], turned(word, at, 128))
		}
		others = append(others, strings.ToUpper(word), strings.ToUpper(word[:1])+word[1:], word+"s", word+"e", "x"+word, word+"-", "-"+word, word+":", `"`+word+`"`, "-", "0", "1", "ev"+word)
		for _, other := range others {
			wantNoLine(t, "misspelt", other+" "+rest)
			wantNoLine(t, "misspelt behind a power", "power 1 2 "+other+" "+rest)
			wantFault(t, "misspelt, first", other+" "+rest+"\n"+four, 1)
		}
		for _, other := range others {
			if slices.Contains(words, other) {
				t.Errorf("%q is a word of another line", other)
			}
		}
	}
	for _, line := range []string{"swop 1 1 1 a b c", "delete 1", "del 1 1 1 a", "set 1 1 1 a x", "add 1 12", "remove 1 12", "end", "quit", "?", "help", "cut 1", "install 1", "serve 1"} {
		wantNoLine(t, "no word", line)
	}
}

// numberPlace is where a line has a number, and what its event takes there.
type numberPlace struct {
	at    int
	least int
	most  int
}

// placesOfNumbers are by the first word, in a world of four nodes.
func placesOfNumbers() map[string][]numberPlace {
	node, limit, at := numberPlace{1, 1, 4}, numberPlace{2, 1, 20}, numberPlace{1, 0, 1000000000}
	session, seq := numberPlace{2, 0, 100000}, numberPlace{3, 0, 100000}
	return map[string][]numberPlace{
		"tick": {node, limit}, "up": {node, limit}, "deliver": {at}, "drop": {at}, "copy": {at}, "open": {node}, "merge": {node}, "down": {node},
		"conf": {node}, "get": {node, session, seq}, "cut": {node, session, seq}, "put": {node, session, seq}, "swap": {node, session, seq},
	}
}

// numbersAbout are at a place's limits, and one more, and far off.
func numbersAbout(p numberPlace) []int {
	return numbers(0, 1, 2, 3, p.least, p.least+1, p.most-1, p.most, p.most+1, p.most+2, 5, 21, 256, 65537, 100001, 1000000, 999999999, 1000000000)
}

// noNumbers are not as ReadDecimal reads them.
func noNumbers() []string {
	return []string{
		"00", "01", "02", "010", "0000000001", "-1", "-0", "+1", "+", "-", "--1", "1.", "1.0", ".1", "1e1", "1e0", "0x1", "0b1", "1_0", "1,0", "a", "1a", "a1", "O", "#", "#1", "'1'",
		"1000000001", "1000000010", "10000000000", "4294967297", "9223372036854775807", "9223372036854775808", "18446744073709551617", "18446744073709551618", strings.Repeat("1", 100), strings.Repeat("0", 99) + "1",
	}
}

func TestNumbersOfLines(t *testing.T) {
	taken, refused := 0, 0
	for _, l := range tableLines() {
		parts := strings.Split(l.line, " ")
		for _, p := range placesOfNumbers()[parts[0]] {
			with := func(word string) string {
				other := slices.Clone(parts)
				other[p.at] = word
				return strings.Join(other, " ")
			}
			for _, n := range numbersAbout(p) {
				line := with(strconv.Itoa(n))
				for _, power := range []string{"", "power 3 4 "} {
					got := wantPlainScript(t, "a number", four+power+line)
					if ok := among(n, p.least, p.most); ok != (got.fault == 0) {
						t.Errorf("%q has the fault %d", power+line, got.fault)
					} else if ok {
						taken++
					} else {
						refused++
					}
				}
			}
			for _, word := range noNumbers() {
				wantNoLine(t, "no number", with(word))
				wantNoLine(t, "no number behind a power", "power 3 4 "+with(word))
			}
		}
	}
	if taken < 200 || refused < 200 {
		t.Errorf("%d numbers are taken, %d refused", taken, refused)
	}
}

func TestNumbersByHand(t *testing.T) {
	for line, e := range map[string]impl.Event{
		"tick 1 1":                              tickEvent(1, 1),
		"tick 4 20":                             tickEvent(4, 20),
		"up 1 1":                                upEvent(1, 1),
		"up 4 20":                               upEvent(4, 20),
		"deliver 0":                             deliverEvent(0),
		"deliver 1000000000":                    deliverEvent(1000000000),
		"drop 1000000000":                       dropEvent(1000000000),
		"copy 1000000000":                       copyEvent(1000000000),
		"get 1 0 0 a":                           callEvent(1, getOf(0, 0, "a")),
		"cut 4 100000 100000 a":                 callEvent(4, cutOf(100000, 100000, "a")),
		"put 4 0 100000 a x":                    callEvent(4, putOf(0, 100000, "a", "x")),
		"swap 4 100000 0 a x y":                 callEvent(4, swapOf(100000, 0, "a", "y", "x")),
		"power 0 0 merge 1":                     cutEvent(mergeEvent(1), 0, 0),
		"power 1000000000 1000000000 merge 1":   cutEvent(mergeEvent(1), 1000000000, 1000000000),
		"power 0 1000000000 deliver 1000000000": cutEvent(deliverEvent(1000000000), 0, 1000000000),
	} {
		wantLine(t, "by hand", line, e)
	}
	for _, line := range []string{
		"tick 0 1", "tick 5 1", "tick 1 0", "tick 1 21", "up 0 1", "up 5 1", "up 1 0", "up 1 21", "deliver 1000000001", "drop 1000000001", "copy 1000000001",
		"get 1 100001 0 a", "get 1 0 100001 a", "get 0 0 0 a", "get 5 0 0 a", "open 0", "open 5", "merge 0", "merge 5", "down 0", "down 5", "conf 0 1", "conf 5 1",
		"power 1000000001 0 merge 1", "power 0 1000000001 merge 1", "power -1 0 merge 1", "power 0 -1 merge 1", "power 00 0 merge 1", "power 0 01 merge 1", "power + 0 merge 1",
	} {
		wantNoLine(t, "by hand", line)
	}
}

func TestNodesOfLines(t *testing.T) {
	for nodes := 1; nodes <= 4; nodes++ {
		first := fmt.Sprintf("cluster %d 1\n", nodes)
		for _, l := range tableLines() {
			parts := strings.Split(l.line, " ")
			if !slices.Contains(placesOfNumbers()[parts[0]], numberPlace{1, 1, 4}) {
				wantScript(t, "of no node", first+l.line, scriptRead{nodes, numbers(1), []impl.Event{l.event}, 0})
				continue
			}
			if parts[0] == "conf" {
				parts[2] = "1"
				l.event.Conf = numbers(1)
			}
			for node := range 7 {
				parts[1] = strconv.Itoa(node)
				text := first + strings.Join(parts, " ") + "\n"
				l.event.Node = node
				if among(node, 1, nodes) {
					wantScript(t, "a node", text, scriptRead{nodes, numbers(1), []impl.Event{l.event}, 0})
				} else {
					wantFault(t, "no node", text, 2)
				}
			}
		}
	}
}

// figureTexts are all texts of up to so many of these bytes, none left out but
// the empty one.
func figureTexts(figures string, most int) []string {
	all, last := []string{}, []string{""}
	for range most {
		var next []string
		for _, text := range last {
			for _, figure := range strings.Split(figures, "") {
				next = append(next, text+figure)
			}
		}
		all, last = append(all, next...), next
	}
	return all
}

// confOfFigures are the 15 that are right, by their figures.
func confOfFigures() map[string][]int {
	all := map[string][]int{}
	for set := 1; set < 16; set++ {
		text, conf := "", []int(nil)
		for id := 1; id <= 4; id++ {
			if set&(1<<(id-1)) != 0 {
				text, conf = text+strconv.Itoa(id), append(conf, id)
			}
		}
		all[text] = conf
	}
	return all
}

func TestConfsOfLines(t *testing.T) {
	right := confOfFigures()
	taken := 0
	odd := []string{"-", "1-", "-1", "1,2", "1.2", "+1", "a", "1a", "12345", "11234", "01234", "12340", "4321", "1234 ", "{1}", "9", "1x2", "1;2", "1/2", ":", "1:", "~", "!", strings.Repeat("1", 500), strings.Repeat("1234", 100)}
	for _, text := range append(figureTexts("012345", 4), odd...) {
		conf := right[strings.TrimSuffix(text, " ")]
		for nodes := 1; nodes <= 4; nodes++ {
			cluster := fmt.Sprintf("cluster %d %s\n", nodes, text)
			line := fmt.Sprintf("cluster %d 1\nconf %d %s\n", nodes, nodes, text)
			if conf == nil || slices.Max(conf) > nodes {
				if got := readOf(cluster); !sameRead(got, scriptRead{fault: 1}) {
					t.Errorf("ReadScript(%q) = %+v", cluster, got)
				}
				if got := readOf(line); !sameRead(got, scriptRead{fault: 2}) {
					t.Errorf("ReadScript(%q) = %+v", line, got)
				}
				continue
			}
			taken++
			wantScript(t, "a conf", cluster, scriptRead{nodes: nodes, conf: conf})
			wantScript(t, "a conf of a line", line, scriptRead{nodes, numbers(1), []impl.Event{confEvent(nodes, conf...)}, 0})
		}
	}
	// Those of 4, 3, 2 and 1 nodes, and the one with a blank behind it.
	if taken != 15+7+3+1+1 {
		t.Errorf("%d confs are taken", taken)
	}
	wantFault(t, "no conf", "cluster 1", 1)
	wantFault(t, "no conf, a blank", "cluster 1 \n", 1)
	wantNoLine(t, "no conf", "conf 1")
	wantNoLine(t, "no conf, a blank", "conf 1 ")
}

func TestTextsOfLines(t *testing.T) {
	nine, twelve := "abcdefghi", "abcdefghijkl"
	for line, c := range map[string]impl.Command{
		"get 1 1 1 " + nine:                                    getOf(1, 1, nine),
		"cut 1 1 1 " + nine:                                    cutOf(1, 1, nine),
		"put 1 1 1 " + nine + " " + twelve:                     putOf(1, 1, nine, twelve),
		"swap 1 1 1 " + nine + " " + twelve + " x":             swapOf(1, 1, nine, "x", twelve),
		"swap 1 1 1 " + nine + " x " + twelve:                  swapOf(1, 1, nine, twelve, "x"),
		"swap 1 1 1 a " + twelve + " " + strings.ToUpper(nine): swapOf(1, 1, "a", "ABCDEFGHI", twelve),
		"put 1 1 1 a -":                                        putOf(1, 1, "a", ""),
		"swap 1 1 1 a - x":                                     swapOf(1, 1, "a", "x", ""),
		"swap 1 1 1 a x -":                                     swapOf(1, 1, "a", "", "x"),
		"swap 1 1 1 a - -":                                     swapOf(1, 1, "a", "", ""),
		"swap 1 1 1 a -- ---":                                  swapOf(1, 1, "a", "---", "--"),
		"put 1 1 1 -- --":                                      putOf(1, 1, "--", "--"),
		"put 1 1 1 -a a-":                                      putOf(1, 1, "-a", "a-"),
		"put 1 1 1 # #":                                        putOf(1, 1, "#", "#"),
		"put 1 1 1 #a #-":                                      putOf(1, 1, "#a", "#-"),
		"swap 1 1 1 # # #":                                     swapOf(1, 1, "#", "#", "#"),
		"put 1 1 1 1 1":                                        putOf(1, 1, "1", "1"),
		"put 1 1 1 007 +0":                                     putOf(1, 1, "007", "+0"),
		`put 1 1 1 "a" 'x'`:                                    putOf(1, 1, `"a"`, "'x'"),
		`put 1 1 1 \n \x00`:                                    putOf(1, 1, `\n`, `\x00`),
		"put 1 1 1 ~ !":                                        putOf(1, 1, "~", "!"),
		"put 1 1 1 put power":                                  putOf(1, 1, "put", "power"),
		"get 1 1 1 cluster":                                    getOf(1, 1, "cluster"),
		"get 1 1 1 A":                                          getOf(1, 1, "A"),
		"get 1 1 1 %d%s":                                       getOf(1, 1, "%d%s"),
	} {
		wantLine(t, "texts", line, callEvent(1, c))
		wantLine(t, "texts behind a power", "power 2 3 "+line, cutEvent(callEvent(1, c), 2, 3))
	}
	ten, thirteen := nine+"j", twelve+"m"
	for _, line := range []string{
		"get 1 1 1 -", "cut 1 1 1 -", "put 1 1 1 - x", "put 1 1 1 - -", "swap 1 1 1 - x y", "swap 1 1 1 - - -",
		"get 1 1 1 " + ten, "cut 1 1 1 " + ten, "put 1 1 1 " + ten + " x", "swap 1 1 1 " + ten + " x y",
		"put 1 1 1 a " + thirteen, "swap 1 1 1 a " + thirteen + " x", "swap 1 1 1 a x " + thirteen,
		"get 1 1 1 " + strings.Repeat("a", 500), "put 1 1 1 a " + strings.Repeat("x", 500),
		"get 1 1 1 \u00e9", "get 1 1 1 a\xff", "put 1 1 1 a \u00e9", "swap 1 1 1 a \x80 x", "swap 1 1 1 a x \x7f", "put 1 1 1 a\x00 x", "get 1 1 1 \u2028",
	} {
		wantNoLine(t, "no texts", line)
		wantNoLine(t, "no texts behind a power", "power 2 3 "+line)
	}
}

func TestPowerAheadOfLines(t *testing.T) {
	for _, l := range tableLines() {
		for _, whole := range numbers(0, 1, 7, 60, 61, 1000000000) {
			for _, part := range numbers(0, 1, 8, 20000, 20001, 1000000000) {
				wantEvents(t, "a power", fmt.Sprintf("%spower %d %d %s\n", four, whole, part, l.line), cutEvent(l.event, whole, part))
			}
		}
		for _, word := range noNumbers() {
			wantNoLine(t, "no W", "power "+word+" 0 "+l.line)
			wantNoLine(t, "no P", "power 0 "+word+" "+l.line)
		}
		for _, line := range []string{
			"power " + l.line, "power 1 " + l.line, "power 1 2 3 " + l.line, "power 1 2 power 3 4 " + l.line, "power power 1 2 " + l.line, "power 1 power 2 " + l.line,
			l.line + " power 1 2", "1 2 power " + l.line, "power 1 2 # " + l.line, "power 1 2 - " + l.line, "power 1 2 power " + l.line,
		} {
			wantNoLine(t, "a power that is not so", line)
		}
	}
	for _, line := range []string{
		"power", "power 1", "power 1 2", "power 1 2 ", "power 1 2 power", "power 1 2 power 3 4", "power 1 2 cluster 4 1234", "power 1 2 #", "power 1 2 # a remark", "power 1 2 3", "power tick 1 2", "power 1 tick 2",
		"power 1 2 tick 0 5", "power 1 2 tick 1 21", "power 1 2 open 5", "power 1 2 get 1 1 1 -", "power 1 2 conf 1 5", "power 1 2 conf 1 21", "power 1 2 deliver -1", "power 1 2 down 0", "power 1 2 up 1 0",
	} {
		wantNoLine(t, "a power of nothing", line)
	}
	wantFault(t, "a power first", "power 1 2 cluster 4 1234\n", 1)
	wantFault(t, "a power first", "power 1 2 tick 1 2\n"+four, 1)
}
