package tests

import (
	"fmt"
	"regexp"
	"slices"
	"strconv"
	"strings"

	"loop.example/cordillera/impl"
)

// modelDesk is the chains and the peers of the model's session.
type modelDesk struct {
	chains [][]impl.Block
	peers  []impl.Peer
}

// modelForm is how a line looks, and what it is told by its parts.
type modelForm struct {
	form *regexp.Regexp
	tell func(m *modelDesk, parts []string) string
}

var (
	numberForm = regexp.MustCompile(`\A(0|[1-9][0-9]{0,8})\z`)
	lineForms  = []modelForm{
		{regexp.MustCompile(`\Amine ([^ ]*) ([^ ]*)((?: [^ ]*)*)\z`), (*modelDesk).mine},
		{regexp.MustCompile(`\Acopy ([^ ]*) ([^ ]*)\z`), (*modelDesk).copy},
		{regexp.MustCompile(`\Apeer ([^ ]*) ([^ ]*) ([^ ]*)\z`), (*modelDesk).peer},
		{regexp.MustCompile(`\Aclient((?: [^ ]*)*)\z`), (*modelDesk).client},
		{regexp.MustCompile(`\Abetter ([^ ]*) ([^ ]*)\z`), (*modelDesk).better},
		{regexp.MustCompile(`\A(work|tip|root|mark) ([^ ]*)\z`), (*modelDesk).ask},
	}
	modelLies = map[string]int{"none": 0, "marks": 1, "filter": 2, "mute": 3, "heads": 4, "block": 5, "short": 6}
	yesOrNo   = map[bool]string{true: "ok", false: "no"}
)

// modelNumber is the number of a word; -1, if it is none.
func modelNumber(word string) int {
	if !numberForm.MatchString(word) {
		return -1
	}
	n, err := strconv.Atoi(word)
	if err != nil {
		panic(err)
	}
	return n
}

// modelBehindWords is the words of a text in which a blank is ahead of each.
func modelBehindWords(s string) []string {
	return strings.Split(s, " ")[1:]
}

// at is the number of the chain of a word; -1, if there is none.
func (m *modelDesk) at(word string) int {
	for at := range m.chains {
		if word == fmt.Sprint(at) {
			return at
		}
	}
	return -1
}

func (m *modelDesk) mine(parts []string) string {
	at, time := m.at(parts[0]), modelNumber(parts[1])
	if at < 0 || time < 0 {
		return "what"
	}
	more, ok := modelChainMine(m.chains[at], time, modelBehindWords(parts[2]))
	if ok && time <= 99999 {
		m.chains[at] = more
		return "ok"
	}
	return "no"
}

func (m *modelDesk) copy(parts []string) string {
	at, many := m.at(parts[0]), modelNumber(parts[1])
	if at < 0 || many < 0 || many > len(m.chains[at]) || len(m.chains) >= 4 {
		return "no"
	}
	m.chains = append(m.chains, slices.Clone(m.chains[at][:many]))
	return "ok"
}

func (m *modelDesk) peer(parts []string) string {
	at, place := m.at(parts[0]), modelNumber(parts[2])
	lie, ok := modelLies[parts[1]]
	if at < 0 || !ok || place < 0 || place > 19 || len(m.peers) >= 5 {
		return "no"
	}
	m.peers = append(m.peers, impl.Peer{Server: modelServerNew(slices.Clone(m.chains[at])), Lie: lie, At: place})
	return "ok"
}

func (m *modelDesk) client(parts []string) string {
	r := modelClient(m.peers, modelBehindWords(parts[0]))
	line := func(name string, places []int) string {
		return strings.TrimRight(name+" "+strings.Trim(fmt.Sprint(places), "[]"), " ")
	}
	out := fmt.Sprintf("code %d heads %d\n%s\n%s", r.Code, len(r.Heads), line("banned", r.Banned), line("out", r.Out))
	for _, hit := range r.Hits {
		out += fmt.Sprintf("\nhit %d %s", hit.At, hit.Item)
	}
	return out
}

func (m *modelDesk) better(parts []string) string {
	a, b := m.at(parts[0]), m.at(parts[1])
	if a < 0 || b < 0 {
		return "what"
	}
	return yesOrNo[modelBetter(headsOf(m.chains[a]), headsOf(m.chains[b]))]
}

func (m *modelDesk) ask(parts []string) string {
	at := m.at(parts[1])
	if at < 0 {
		return "what"
	}
	list := m.chains[at]
	heads := headsOf(list)
	switch parts[0] {
	case "work":
		return fmt.Sprint(modelWork(heads))
	case "root":
		return modelRangeRoot(modelRange(heads))
	}
	if len(list) == 0 {
		return noughts
	}
	if parts[0] == "tip" {
		return modelHeadSum(heads[len(heads)-1])
	}
	return modelMarks(list)[len(list)-1]
}

// line is what the model tells a line.
func (m *modelDesk) line(s string) string {
	for _, f := range lineForms {
		if parts := f.form.FindStringSubmatch(s); parts != nil {
			return f.tell(m, parts[1:])
		}
	}
	return "what"
}

// modelSession is what the model tells each line.
func modelSession(lines []string) []string {
	m := &modelDesk{chains: make([][]impl.Block, 1)}
	var out []string
	for _, s := range cut(lines, 0, 60) {
		out = append(out, m.line(s)+"\n")
	}
	return out
}

// word is a word that is wrong nearly everywhere.
func (d *dice) word() string {
	words := []string{"", "00", "01", "-0", "-1", "+1", "4", "9", "21", "x", "1234567890", "4294967296", "999999999", "1\n", "0x1", "1.0", "\xff", "none", "\u0661"}
	return words[d.below(len(words))]
}

// many is a number of a few; once in a while it is a word that is none.
func (d *dice) many(below int) string {
	if d.below(12) == 0 {
		return d.word()
	}
	return strconv.Itoa(d.below(below))
}

// words is words of some, each with a blank ahead.
func (d *dice) words(words []string, many int) string {
	out := ""
	for range many {
		out += " " + words[d.below(len(words))]
	}
	return out
}

// line is a line of a session, the turn of which tells the time.
func (d *dice) line(turn int) string {
	lies := []string{"none", "none", "marks", "filter", "mute", "heads", "block", "short", "liar"}
	chain := func() string { return " " + d.many(1+d.below(3)) }
	switch d.below(24) {
	case 0, 1:
		return "copy" + chain() + " " + d.many(6)
	case 2, 3, 4:
		return "peer" + chain() + " " + lies[d.below(len(lies))] + " " + d.many(9)
	case 5, 6:
		return "client" + d.words([]string{"a", "b", "zz", "fake", d.item()}, 1+d.below(4))
	case 7:
		return "better" + chain() + chain()
	case 8, 9, 10, 11:
		return []string{"work", "tip", "root", "mark"}[d.below(4)] + chain()
	case 12:
		return d.words([]string{"mine", "copy", "peer", "client", "work", "0", "1", "2", "a", "none", d.word()}, 1+d.below(4))[1:]
	case 13:
		return "mine" + chain() + " " + d.many(200) + d.words([]string{"a", "b", d.word()}, d.below(8))
	}
	return "mine" + chain() + fmt.Sprintf(" %d", 5*turn+d.below(4)) + d.words([]string{"a", "b", "c", "fake", d.item()}, d.below(5))
}

// session is lines of a session.
func (d *dice) session(many int) []string {
	var out []string
	for turn := range many {
		out = append(out, d.line(turn))
	}
	return out
}
