package replica

import (
	"slices"

	"escrow/api"
	"escrow/plain"
)

// draft is a node that is being changed, and what it has sent; its log is its own.
type draft struct {
	Node
	sent []Msg
}

func begin(n Node) *draft {
	own := make([]Entry, len(n.Log))
	copy(own, n.Log)
	n.Log = own
	return &draft{Node: n}
}

func (t *draft) send(to int, m Msg) {
	m.From, m.To, m.Term = t.Id, to, t.Term
	t.sent = append(t.sent, m)
}

// others does something for each of the two other nodes.
func (t *draft) others(do func(id int)) {
	for id := range api.Servers {
		if id != t.Id {
			do(id)
		}
	}
}

// termAt tells the term of the entry at an index; false: there is no such entry.
func (t *draft) termAt(index int) (int, bool) {
	k := index - t.Base
	switch {
	case k == 0:
		return t.BaseTerm, true
	case k < 0 || k > len(t.Log):
		return 0, false
	}
	return t.Log[k-1].Term, true
}

// owe sends what a node lacks, as far as the leader knows.
func (t *draft) owe(to int) {
	next := t.Next[to]
	if next <= t.Base {
		t.send(to, Msg{Kind: RSnap, Index: t.Base, LogTerm: t.BaseTerm, Snap: t.Snap})
		return
	}
	term, _ := t.termAt(next - 1)
	from := min(max(next-1-t.Base, 0), len(t.Log))
	until := min(from+maxBatch, len(t.Log))
	t.send(to, Msg{Kind: RAdd, Index: next - 1, LogTerm: term, Entries: plain.List(t.Log[from:until]), Commit: t.Commit})
}

func (t *draft) campaign() {
	t.Role, t.Vote, t.Wait = Candidate, t.Id, 0
	t.Term++
	t.Votes = [3]bool{}
	t.Votes[t.Id] = true
	index, term := Last(t.Node)
	t.others(func(id int) {
		t.send(id, Msg{Kind: RVote, Index: index, LogTerm: term})
	})
}

func (t *draft) vote(m Msg) {
	index, term := Last(t.Node)
	current := m.LogTerm > term || m.LogTerm == term && m.Index >= index
	given := m.Term == t.Term && (t.Vote == noVote || t.Vote == m.From) && current
	if given {
		t.Vote, t.Wait = m.From, 0
	}
	t.send(m.From, Msg{Kind: RVoted, Yes: given})
}

func (t *draft) voted(m Msg) {
	if m.Term != t.Term || t.Role != Candidate || !m.Yes {
		return
	}
	t.Votes[m.From] = true
	if t.Votes[0] && t.Votes[1] || t.Votes[0] && t.Votes[2] || t.Votes[1] && t.Votes[2] {
		t.lead()
	}
}

func (t *draft) lead() {
	t.Role = Leader
	t.Match = [3]int{}
	index := t.append("")
	t.Next = [3]int{index, index, index}
	t.others(t.owe)
}

// append adds an entry of the node's own, and tells its index.
func (t *draft) append(cmd string) int {
	t.Log = append(t.Log, Entry{Term: t.Term, Cmd: cmd})
	index, _ := Last(t.Node)
	t.Match[t.Id] = index
	return index
}

// obey does what a leader says, unless another one has come after it.
func (t *draft) obey(m Msg, do func(Msg)) {
	if m.Term < t.Term {
		t.send(m.From, Msg{Kind: RAdded})
		return
	}
	t.Role, t.Wait = Follower, 0
	do(m)
}

func (t *draft) add(m Msg) {
	last, _ := Last(t.Node)
	term, ok := t.termAt(m.Index)
	switch {
	case m.Index < t.Base:
		t.send(m.From, Msg{Kind: RAdded, Yes: true, Index: t.Base})
	case !ok || term != m.LogTerm:
		t.send(m.From, Msg{Kind: RAdded, Index: min(last, m.Index-1)})
	default:
		t.put(m.Index, m.Entries)
		reached := m.Index + len(m.Entries)
		t.Commit = max(t.Commit, min(m.Commit, reached))
		t.send(m.From, Msg{Kind: RAdded, Yes: true, Index: reached})
	}
}

// put lays entries after an index of the log; from the first one of another term on, what was there goes.
func (t *draft) put(index int, l []Entry) {
	for i, e := range l {
		k := index - t.Base + i
		if k < len(t.Log) && t.Log[k].Term == e.Term {
			continue
		}
		t.Log = append(t.Log[:k], e)
	}
}

func (t *draft) snap(m Msg) {
	t.send(m.From, Msg{Kind: RAdded, Yes: true, Index: max(m.Index, t.Commit)})
	if m.Index <= t.Commit {
		return
	}
	var after []Entry
	if term, ok := t.termAt(m.Index); ok && term == m.LogTerm {
		after = t.Log[m.Index-t.Base:]
	}
	t.Log = plain.List(after)
	t.Base, t.BaseTerm, t.Snap, t.Commit = m.Index, m.LogTerm, m.Snap, m.Index
}

func (t *draft) added(m Msg) {
	if m.Term != t.Term || t.Role != Leader {
		return
	}
	match := &t.Match[m.From]
	if m.Yes {
		*match = max(*match, m.Index)
		t.Next[m.From] = *match + 1
		t.commit()
		return
	}
	next := max(min(t.Next[m.From]-1, m.Index+1), 1, *match+1)
	t.Next[m.From] = next
	if last, _ := Last(t.Node); next <= last {
		t.owe(m.From)
	}
}

// commit moves on to the last entry of the node's own term that two nodes have.
func (t *draft) commit() {
	reached := t.Match
	slices.Sort(reached[:])
	last, _ := Last(t.Node)
	for index := min(reached[1], last); index > max(t.Commit, t.Base); index-- {
		if term, _ := t.termAt(index); term == t.Term {
			t.Commit = index
			return
		}
	}
}
