package audit

import (
	"iter"
	"slices"
	"strings"

	"petrinet/align"
	"petrinet/api"
	"petrinet/replay"
)

// unit returns the costs with which traces are aligned.
func unit() align.Cost {
	return align.Cost{Log: 1, Net: 1}
}

// alignment is a result of align.Best.
type alignment struct {
	moves []api.Move
	cost  int
	e     api.Errno
}

// traces are those of a log, with their best alignments with a net.
type traces struct {
	net   api.Net
	final []int
	log   [][]string
	best  []alignment
}

// among yields the traces that have a best alignment for which a comparison fails.
func (t traces) among(fails func(trace []string, best alignment) bool) iter.Seq[int] {
	return where(len(t.log), func(i int) bool {
		return t.best[i].e == api.OK && fails(t.log[i], t.best[i])
	})
}

// alignments has the check of the alignments themselves.
type alignments struct {
	traces
}

// align yields the traces whose moves are no alignment, or one of another cost.
func (a alignments) align() iter.Seq[int] {
	return a.among(func(trace []string, best alignment) bool {
		return !align.Check(a.net, a.final, trace, best.moves) || align.Total(unit(), best.moves) != best.cost
	})
}

// replays has the check that compares the alignments with token replay.
type replays struct {
	traces
}

// replay yields the traces that can be replayed although they cost something, or cannot although they cost nothing.
func (r replays) replay() iter.Seq[int] {
	silent := func(t api.Trans) bool { return strings.HasPrefix(t.Name, "_") }
	if slices.ContainsFunc(r.net.Trans, silent) {
		return nowhere()
	}
	return r.among(func(trace []string, best alignment) bool {
		fits, e := replay.Fits(r.net, r.final, trace)
		return e == api.OK && fits != (best.cost == 0)
	})
}

// logAudit has the checks of a log.
type logAudit struct {
	alignments
	replays
}

// auditOfLog returns the audit of a valid log and a valid net that has so many states at most.
func auditOfLog(n api.Net, final []int, l [][]string, limit int) logAudit {
	t := traces{net: n, final: final, log: l}
	for _, trace := range l {
		moves, cost, e := align.Best(n, final, trace, unit(), limit)
		t.best = append(t.best, alignment{moves, cost, e})
	}
	return logAudit{alignments{t}, replays{t}}
}
