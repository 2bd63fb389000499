package tests

import (
	"slices"
	"testing"

	"loop.example/cordillera/impl"
)

// sessionCases is lines of sessions: none, few, as many as are told, and more.
func sessionCases() [][]string {
	d := &dice{state: 95}
	known, _ := linesOf(knownSession())
	out := [][]string{{}, known, {"mine 0 5 a b", "peer 0 marks 0", "client a"}}
	for _, many := range []int{3, 30, impl.SessionMax - 1, impl.SessionMax, impl.SessionMax + 1, impl.SessionMax + 9} {
		out = append(out, d.session(many))
	}
	return out
}

func TestNothingIsWrittenIntoLines(t *testing.T) {
	for _, lines := range sessionCases() {
		list, check := guarded(t, "mine 0 1", lines...)
		got := impl.Session(list)
		check("Session")
		if want := impl.Session(lines); got != want {
			t.Errorf("Session of %q hangs on what stands behind them: %q, not %q", lines, got, want)
		}
		checkApart(t, "Session", []any{got}, []any{list})
	}
}

// Lines are overwritten behind the call; the answer is as it was.
func TestSessionsShareNoText(t *testing.T) {
	for _, lines := range sessionCases() {
		want := impl.Session(lines)
		loose := slices.Clone(lines)
		drops := make([]func(), len(lines))
		for i, line := range lines {
			loose[i], drops[i] = looseText(line)
		}
		got := impl.Session(loose)
		for _, drop := range drops {
			drop()
		}
		if got != want {
			t.Errorf("the answer changed with an argument: %q, not %q", got, want)
		}
	}
}
