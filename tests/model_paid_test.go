package tests

import (
	"fmt"
	"regexp"
	"slices"
	"strconv"
	"strings"

	"loop.example/cordillera/impl"
)

func modelPaid(list []impl.Block, at int, item int) impl.Paid {
	if !modelChainOk(list) || at < 0 || at >= len(list) || item < 0 || item >= len(list[at].Items) {
		return impl.Paid{}
	}
	return impl.Paid{At: at, Head: list[at].Head, Proof: modelProof(headsOf(list), at), Sides: modelSides(list[at].Items, item)}
}

func modelPaidCheck(root string, item string, p impl.Paid) bool {
	return modelIsSum(root) && modelMeets(p.Head) && modelRangeCheck(root, p.Head, p.At, p.Proof) != -1 && modelRootCheck(p.Head.Root, item, p.Sides)
}

// modelPaidDeep goes from the last head back to the place.
func modelPaidDeep(p impl.Paid) int {
	many, _ := modelRangeMany(p.Proof.Peaks)
	for deep := range max(many, 0) {
		if many-deep-1 == p.At {
			return deep
		}
	}
	return -1
}

func modelPaidFind(list []impl.Block, item string) []impl.Hit {
	if !modelChainOk(list) {
		return nil
	}
	return allHits(list, []string{item})
}

func modelPaidOk(p impl.Paid) bool {
	steps := slices.ContainsFunc(p.Proof.Steps, func(s impl.Peak) bool { return !modelPeakOk(s) })
	sides := slices.ContainsFunc(p.Sides, func(s impl.Side) bool { return !modelIsSum(s.Sum) })
	return p.At >= 0 && p.At <= 19 && modelHeadOk(p.Head) && modelRangeOk(p.Proof.Peaks) && !steps && len(p.Proof.Steps) <= 8 && !sides && len(p.Sides) <= 8
}

func modelPaidPut(p impl.Paid) string {
	if !modelPaidOk(p) {
		return ""
	}
	out := fmt.Sprintf("%d %s\npeaks", p.At, modelHeadPut(p.Head))
	for _, peak := range p.Proof.Peaks {
		out += fmt.Sprintf(" %s:%d:%d", peak.Sum, peak.Work, peak.Count)
	}
	out += "\nsteps"
	for _, peak := range p.Proof.Steps {
		out += fmt.Sprintf(" %s:%d:%d", peak.Sum, peak.Work, peak.Count)
	}
	out += "\nsides"
	for _, side := range p.Sides {
		out += " " + map[bool]string{true: "l", false: "r"}[side.Left] + side.Sum
	}
	return out
}

const (
	formNumber = `(?:0|[1-9][0-9]{0,8})`
	formPeaks  = `((?: [0-9a-f]{16}:` + formNumber + `:` + formNumber + `)*)`
)

var paidForm = regexp.MustCompile(`\A(` + formNumber + `) ([^\n]*)\npeaks` + formPeaks + `\nsteps` + formPeaks + `\nsides((?: [lr][0-9a-f]{16})*)\z`)

// modelPeaksGet reads peaks, each behind a blank.
func modelPeaksGet(s string) []impl.Peak {
	var out []impl.Peak
	for _, word := range strings.Fields(s) {
		parts := strings.Split(word, ":")
		work, _ := strconv.Atoi(parts[1])
		count, _ := strconv.Atoi(parts[2])
		out = append(out, impl.Peak{Sum: parts[0], Work: work, Count: count})
	}
	return out
}

func modelPaidGet(s string) (impl.Paid, bool) {
	parts := paidForm.FindStringSubmatch(s)
	if parts == nil {
		return impl.Paid{}, false
	}
	at, _ := strconv.Atoi(parts[1])
	head, ok := modelHeadGet(parts[2])
	p := impl.Paid{At: at, Head: head, Proof: impl.Proof{Peaks: modelPeaksGet(parts[3]), Steps: modelPeaksGet(parts[4])}}
	for _, word := range strings.Fields(parts[5]) {
		p.Sides = append(p.Sides, impl.Side{Sum: word[1:], Left: word[0] == 'l'})
	}
	if !ok || !modelPaidOk(p) {
		return impl.Paid{}, false
	}
	return p, true
}

func samePaid(a, b impl.Paid) bool {
	return a.At == b.At && a.Head == b.Head && sameProof(a.Proof, b.Proof) && slices.Equal(a.Sides, b.Sides)
}

// sides is so many sums beside a way, whatever they are.
func (d *dice) sides(many int) []impl.Side {
	var out []impl.Side
	for range many {
		out = append(out, impl.Side{Sum: d.sum(), Left: d.below(2) == 0})
	}
	return out
}

// steps is so many peaks that are ok, and no range.
func (d *dice) steps(many int) []impl.Peak {
	var out []impl.Peak
	for range many {
		out = append(out, d.peak(1+d.below(20)))
	}
	return out
}

// paid is a proof that can be written and proves nothing.
func (d *dice) paid(at, heads, steps, sides int) impl.Paid {
	return impl.Paid{At: at, Head: d.head(), Proof: impl.Proof{Peaks: d.peaks(heads), Steps: d.steps(steps)}, Sides: d.sides(sides)}
}
