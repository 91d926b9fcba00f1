package replica_test

import (
	"math"
	"math/rand"
	"reflect"
	"slices"
	"testing"

	"escrow/api"
	"escrow/replica"
)

func log(terms ...int) []replica.Entry {
	var l []replica.Entry
	for i, term := range terms {
		l = append(l, replica.Entry{Term: term, Cmd: string(rune('a' + i))})
	}
	return l
}

func ticks(n replica.Node, k int) (replica.Node, []replica.Msg) {
	var l []replica.Msg
	for range k {
		n, l = replica.Tick(n)
	}
	return n, l
}

// leader is node 0 leading term 3, whose log has entries 3 and 4 after a base of 2.
func leader() replica.Node {
	return replica.Node{Id: 0, Term: 3, Vote: 0, Base: 2, BaseTerm: 1, Snap: "s", Log: log(2, 3), Role: replica.Leader, Commit: 2, Votes: [3]bool{true, true}, Next: [3]int{4, 4, 4}, Match: [3]int{4}}
}

// takes does Take, and holds the outcome against what is wanted.
func takes(t *testing.T, n replica.Node, m replica.Msg, change func(n *replica.Node), want ...replica.Msg) replica.Node {
	t.Helper()
	before := n
	before.Log = slices.Clone(n.Log)
	got, sent := replica.Take(n, m)
	if !replica.Same(n, before) {
		t.Fatal("Take changed its argument")
	}
	if change != nil {
		change(&before)
	}
	if !replica.Same(got, before) {
		t.Errorf("node %+v, not %+v", got, before)
	}
	if len(sent) != len(want) {
		t.Fatalf("sent %+v, not %+v", sent, want)
	}
	for i := range sent {
		if !sameMsg(sent[i], want[i]) {
			t.Errorf("sent %+v, not %+v", sent[i], want[i])
		}
	}
	return got
}

func sameMsg(a, b replica.Msg) bool {
	if !slices.Equal(a.Entries, b.Entries) {
		return false
	}
	a.Entries, b.Entries = nil, nil
	return reflect.DeepEqual(a, b)
}

func TestP1501(t *testing.T) {
	for id, want := range map[int]int{0: 0, 1: 1, 2: 2, 3: 0, 7: 1, -1: 2, -3: 0, math.MinInt: ((math.MinInt % 3) + 3) % 3} {
		if n := replica.New(id); !replica.Same(n, replica.Node{Id: want, Vote: -1}) {
			t.Errorf("%d: %+v", id, n)
		}
	}
	if i, term := replica.Last(replica.New(0)); i != 0 || term != 0 {
		t.Error(i, term)
	}
	if i, term := replica.Last(leader()); i != 4 || term != 3 {
		t.Error(i, term)
	}
	if i, term := replica.Last(replica.Node{Base: 7, BaseTerm: 5}); i != 7 || term != 5 {
		t.Error(i, term)
	}
	n := leader()
	n.Wait, n.Commit = 4, 3
	if w := replica.Wake(n); !replica.Same(w, replica.Node{Id: 0, Term: 3, Vote: 0, Base: 2, BaseTerm: 1, Snap: "s", Log: log(2, 3), Commit: 3}) {
		t.Errorf("%+v", w)
	}
	w := replica.Wake(n)
	w.Log[0].Cmd = "?"
	if n.Log[0].Cmd != "a" {
		t.Error("memory is shared")
	}
}

func TestP1502Campaign(t *testing.T) {
	for id, patience := range []int{5, 8, 11} {
		n := replica.Node{Id: id, Term: 4, Vote: -1, Base: 1, BaseTerm: 1, Log: log(2, 3), Votes: [3]bool{true, true, true}}
		n, sent := ticks(n, patience-1)
		if n.Wait != patience-1 || n.Role != replica.Follower || n.Term != 4 || sent != nil {
			t.Errorf("%+v", n)
		}
		n, sent = replica.Tick(n)
		votes := [3]bool{}
		votes[id] = true
		if !replica.Same(n, replica.Node{Id: id, Term: 5, Vote: id, Base: 1, BaseTerm: 1, Log: log(2, 3), Role: replica.Candidate, Votes: votes}) {
			t.Errorf("%+v", n)
		}
		var to []int
		for _, m := range sent {
			to = append(to, m.To)
			if !sameMsg(m, replica.Msg{Kind: replica.RVote, From: id, To: m.To, Term: 5, Index: 3, LogTerm: 3}) {
				t.Errorf("%+v", m)
			}
		}
		if !slices.Equal(to, [][]int{{1, 2}, {0, 2}, {0, 1}}[id]) {
			t.Errorf("%v", to)
		}
		if again, _ := ticks(n, patience); again.Term != 6 || again.Role != replica.Candidate {
			t.Errorf("%+v", again)
		}
	}
	n := replica.Node{Id: 0, Term: 1 << 30, Vote: -1, Wait: 4}
	if n, sent := ticks(n, 3); n.Wait != 7 || n.Role != replica.Follower || sent != nil {
		t.Errorf("the last term: %+v", n)
	}
}

func TestP1502Leader(t *testing.T) {
	n := leader()
	n.Log = append(n.Log, log(3, 3, 3, 3, 3, 3, 3, 3)...)
	n.Next = [3]int{1, 2, 4}
	same, sent := replica.Tick(n)
	if !replica.Same(n, same) || len(sent) != 2 || !sameMsg(sent[0], replica.Msg{Kind: replica.RSnap, From: 0, To: 1, Term: 3, Index: 2, LogTerm: 1, Snap: "s"}) ||
		!sameMsg(sent[1], replica.Msg{Kind: replica.RAdd, From: 0, To: 2, Term: 3, Index: 3, LogTerm: 2, Entries: n.Log[1:9], Commit: 2}) {
		t.Errorf("%+v", sent)
	}
	sent[1].Entries[0].Cmd = "?"
	if n.Log[1].Cmd != "b" || same.Log[1].Cmd != "b" {
		t.Error("memory is shared")
	}
	n.Next = [3]int{1, 3, 13}
	_, sent = replica.Tick(n)
	if !sameMsg(sent[0], replica.Msg{Kind: replica.RAdd, From: 0, To: 1, Term: 3, Index: 2, LogTerm: 1, Entries: n.Log[:8], Commit: 2}) ||
		!sameMsg(sent[1], replica.Msg{Kind: replica.RAdd, From: 0, To: 2, Term: 3, Index: 12, LogTerm: 3, Commit: 2}) {
		t.Errorf("%+v", sent)
	}
}

func TestP1503Ignored(t *testing.T) {
	for _, m := range []replica.Msg{
		{Kind: replica.RVote, From: 0, To: 0, Term: 9}, {Kind: replica.RVote, From: 3, To: 0, Term: 9}, {Kind: replica.RVote, From: -1, To: 0, Term: 9}, {Kind: replica.RVote, From: 1, To: 2, Term: 9},
		{Kind: 0, From: 1, Term: 9}, {Kind: 6, From: 1, Term: 9}, {Kind: replica.RVote, From: 1, Term: -1}, {Kind: replica.RVote, From: 1, Term: 1<<30 + 1},
	} {
		takes(t, leader(), m, nil)
	}
	takes(t, leader(), replica.Msg{Kind: replica.RVoted, From: 1, Term: 1 << 30}, func(n *replica.Node) {
		n.Term, n.Vote, n.Role, n.Votes = 1<<30, -1, replica.Follower, [3]bool{}
	})
}

func TestP1503Vote(t *testing.T) {
	n := replica.Node{Id: 1, Term: 3, Vote: -1, Base: 2, BaseTerm: 1, Log: log(2, 3), Wait: 2}
	voted := func(yes bool, term int) replica.Msg {
		return replica.Msg{Kind: replica.RVoted, From: 1, To: 0, Term: term, Yes: yes}
	}
	for _, c := range []struct {
		index, logTerm int
		yes            bool
	}{{4, 3, true}, {5, 3, true}, {3, 3, false}, {9, 2, false}, {1, 4, true}} {
		takes(t, n, replica.Msg{Kind: replica.RVote, From: 0, To: 1, Term: 3, Index: c.index, LogTerm: c.logTerm}, func(n *replica.Node) {
			if c.yes {
				n.Vote, n.Wait = 0, 0
			}
		}, voted(c.yes, 3))
	}
	ask := replica.Msg{Kind: replica.RVote, From: 0, To: 1, Term: 3, Index: 4, LogTerm: 3}
	n.Vote = 0
	takes(t, n, ask, func(n *replica.Node) { n.Wait = 0 }, voted(true, 3))
	n.Vote = 2
	takes(t, n, ask, nil, voted(false, 3))
	ask.Term = 2
	n.Vote = -1
	takes(t, n, ask, nil, voted(false, 3))
	ask.Term, ask.LogTerm = 4, 0
	n.Vote, n.Role, n.Votes = 1, replica.Candidate, [3]bool{false, true}
	takes(t, n, ask, func(n *replica.Node) { n.Term, n.Vote, n.Role, n.Votes = 4, -1, replica.Follower, [3]bool{} }, voted(false, 4))
}

func TestP1503Voted(t *testing.T) {
	n := replica.Node{Id: 1, Term: 3, Vote: 1, Role: replica.Candidate, Base: 2, BaseTerm: 1, Snap: "s", Log: log(2), Commit: 2, Votes: [3]bool{false, true}, Next: [3]int{7, 7, 7}, Match: [3]int{7, 7, 7}, Wait: 2}
	yes := replica.Msg{Kind: replica.RVoted, From: 2, To: 1, Term: 3, Yes: true}
	add := replica.Msg{Kind: replica.RAdd, From: 1, Term: 3, Index: 3, LogTerm: 2, Entries: []replica.Entry{{Term: 3}}, Commit: 2}
	add2 := add
	add2.To = 2
	won := takes(t, n, yes, func(n *replica.Node) {
		n.Role, n.Votes[2], n.Next, n.Match = replica.Leader, true, [3]int{4, 4, 4}, [3]int{0, 4, 0}
		n.Log = append(n.Log, replica.Entry{Term: 3})
	}, add, add2)
	takes(t, won, replica.Msg{Kind: replica.RVoted, From: 0, To: 1, Term: 3, Yes: true}, nil)
	no, old := yes, yes
	no.Yes, old.Term = false, 2
	takes(t, n, no, nil)
	takes(t, n, old, nil)
	n.Role = replica.Follower
	takes(t, n, yes, nil)
	for id := range 3 { // any two votes will do
		for from := range 3 {
			m := replica.Msg{Kind: replica.RVoted, From: from, To: id, Term: 3, Yes: true}
			c := replica.Node{Id: id, Term: 3, Vote: id, Role: replica.Candidate}
			c.Votes[id] = true
			if won, _ := replica.Take(c, m); from != id && (won.Role != replica.Leader || !won.Votes[from] || !won.Votes[id]) {
				t.Errorf("%d with the vote of %d: %+v", id, from, won)
			}
		}
	}
	alone := replica.Node{Id: 1, Term: 3, Role: replica.Candidate}
	takes(t, alone, yes, func(n *replica.Node) { n.Votes[2] = true })
}

func TestP1503Add(t *testing.T) {
	n := replica.Node{Id: 1, Term: 3, Vote: 1, Role: replica.Candidate, Base: 2, BaseTerm: 1, Log: log(2, 2, 3), Commit: 3, Wait: 4}
	add := func(index, logTerm, commit int, l ...replica.Entry) replica.Msg {
		return replica.Msg{Kind: replica.RAdd, From: 0, To: 1, Term: 3, Index: index, LogTerm: logTerm, Commit: commit, Entries: l}
	}
	added := func(yes bool, index int) replica.Msg {
		return replica.Msg{Kind: replica.RAdded, From: 1, To: 0, Term: 3, Yes: yes, Index: index}
	}
	obeys := func(more func(n *replica.Node)) func(n *replica.Node) {
		return func(n *replica.Node) {
			n.Role, n.Wait = replica.Follower, 0
			if more != nil {
				more(n)
			}
		}
	}
	old := add(5, 3, 5)
	old.Term = 2
	takes(t, n, old, nil, added(false, 0))
	takes(t, n, add(1, 1, 5), obeys(nil), added(true, 2))
	takes(t, n, add(-1, 0, 5), obeys(nil), added(true, 2))
	takes(t, n, add(6, 3, 5), obeys(nil), added(false, 5))
	takes(t, n, add(9, 3, 5), obeys(nil), added(false, 5))
	takes(t, n, add(5, 2, 5), obeys(nil), added(false, 4))
	takes(t, n, add(2, 2, 5), obeys(nil), added(false, 1))
	takes(t, n, add(5, 3, 4), obeys(func(n *replica.Node) { n.Commit = 4 }), added(true, 5))
	takes(t, n, add(5, 3, 9), obeys(func(n *replica.Node) { n.Commit = 5 }), added(true, 5))
	takes(t, n, add(4, 2, 9), obeys(func(n *replica.Node) { n.Commit = 4 }), added(true, 4))
	takes(t, n, add(5, 3, 2), obeys(nil), added(true, 5))
	takes(t, n, add(2, 1, 2, replica.Entry{2, "a"}), obeys(nil), added(true, 3))
	takes(t, n, add(2, 1, 9, replica.Entry{2, "a"}, replica.Entry{3, "x"}), obeys(func(n *replica.Node) {
		n.Log, n.Commit = []replica.Entry{{2, "a"}, {3, "x"}}, 4
	}), added(true, 4))
	takes(t, n, add(5, 3, 9, replica.Entry{3, "x"}, replica.Entry{3, "y"}), obeys(func(n *replica.Node) {
		n.Log, n.Commit = append(n.Log, replica.Entry{3, "x"}, replica.Entry{3, "y"}), 7
	}), added(true, 7))
	newer := add(5, 3, 3)
	newer.Term = 4
	reply := added(true, 5)
	reply.Term = 4
	takes(t, n, newer, obeys(func(n *replica.Node) { n.Term, n.Vote = 4, -1 }), reply)
}

func TestP1503Added(t *testing.T) {
	n := leader()
	n.Commit = 2
	added := func(from int, yes bool, index int) replica.Msg {
		return replica.Msg{Kind: replica.RAdded, From: from, To: 0, Term: 3, Yes: yes, Index: index}
	}
	takes(t, n, added(1, true, 4), func(n *replica.Node) { n.Match[1], n.Next[1], n.Commit = 4, 5, 4 })
	takes(t, n, added(2, true, 3), func(n *replica.Node) { n.Match[2], n.Next[2] = 3, 4 }) // entry 3 is of an earlier term
	n.Match = [3]int{4, 4, 0}
	n.Next[1] = 9
	takes(t, n, added(1, true, 2), func(n *replica.Node) { n.Next[1], n.Commit = 5, 4 })
	n = leader()
	old := added(1, true, 4)
	old.Term = 2
	takes(t, n, old, nil)
	snap := replica.Msg{Kind: replica.RSnap, From: 0, To: 1, Term: 3, Index: 2, LogTerm: 1, Snap: "s"}
	takes(t, n, added(1, false, 3), func(n *replica.Node) { n.Next[1] = 3 }, replica.Msg{Kind: replica.RAdd, From: 0, To: 1, Term: 3, Index: 2, LogTerm: 1, Entries: n.Log, Commit: 2})
	takes(t, n, added(1, false, 0), func(n *replica.Node) { n.Next[1] = 1 }, snap)
	takes(t, n, added(1, false, -5), func(n *replica.Node) { n.Next[1] = 1 }, snap)
	takes(t, n, added(2, false, 3), func(n *replica.Node) { n.Next[2] = 3 }, replica.Msg{Kind: replica.RAdd, From: 0, To: 2, Term: 3, Index: 2, LogTerm: 1, Entries: n.Log, Commit: 2})
	n.Next[1] = 9
	takes(t, n, added(1, false, 3), func(n *replica.Node) { n.Next[1] = 4 }, replica.Msg{Kind: replica.RAdd, From: 0, To: 1, Term: 3, Index: 3, LogTerm: 2, Entries: n.Log[1:], Commit: 2})
	takes(t, n, added(1, false, 4), func(n *replica.Node) { n.Next[1] = 5 })
	n.Match[1] = 4
	n.Next[1] = 5
	takes(t, n, added(1, false, 0), func(n *replica.Node) { n.Next[1] = 5 })
	n.Role = replica.Follower
	takes(t, n, added(1, false, 0), nil)
	n.Role = replica.Candidate
	takes(t, n, added(1, true, 4), nil)
}

func TestP1503Snap(t *testing.T) {
	n := replica.Node{Id: 1, Term: 3, Vote: 1, Role: replica.Candidate, Base: 2, BaseTerm: 1, Snap: "old", Log: log(2, 2, 3), Commit: 3, Wait: 4}
	snap := func(index, logTerm int) replica.Msg {
		return replica.Msg{Kind: replica.RSnap, From: 2, To: 1, Term: 3, Index: index, LogTerm: logTerm, Snap: "new"}
	}
	added := func(yes bool, index int) replica.Msg {
		return replica.Msg{Kind: replica.RAdded, From: 1, To: 2, Term: 3, Yes: yes, Index: index}
	}
	old := snap(9, 3)
	old.Term = 2
	takes(t, n, old, nil, added(false, 0))
	for index := 1; index <= 3; index++ {
		takes(t, n, snap(index, 2), func(n *replica.Node) { n.Role, n.Wait = replica.Follower, 0 }, added(true, 3))
	}
	for _, c := range []struct {
		index, logTerm int
		left           []replica.Entry
	}{{4, 2, n.Log[2:]}, {4, 3, nil}, {5, 3, nil}, {9, 3, nil}} {
		takes(t, n, snap(c.index, c.logTerm), func(n *replica.Node) {
			n.Role, n.Wait, n.Log, n.Base, n.BaseTerm, n.Snap, n.Commit = replica.Follower, 0, c.left, c.index, c.logTerm, "new", c.index
		}, added(true, c.index))
	}
}

func TestP1504(t *testing.T) {
	n := leader()
	next, index, e := replica.Propose(n, "cmd")
	n.Log, n.Match[0] = append(n.Log, replica.Entry{3, "cmd"}), 5
	if e != api.OK || index != 5 || !replica.Same(next, n) {
		t.Errorf("%+v, %d, %v", next, index, e)
	}
	if same, index, e := replica.Propose(n, ""); e != api.ErrArg || index != 0 || !replica.Same(same, n) {
		t.Error(index, e)
	}
	for _, role := range []int{replica.Follower, replica.Candidate} {
		n.Role = role
		if same, index, e := replica.Propose(n, ""); e != api.ErrLeader || index != 0 || !replica.Same(same, n) {
			t.Error(index, e)
		}
	}
	n.Commit = 4
	for _, index := range []int{-1, 0, 1, 2, 5, 9, math.MaxInt, math.MinInt} {
		if same, e := replica.Compact(n, index, "x"); e != api.ErrArg || !replica.Same(same, n) {
			t.Error(index, e)
		}
	}
	for index, left := range map[int][]replica.Entry{3: n.Log[1:], 4: n.Log[2:]} {
		want := n
		want.Base, want.BaseTerm, want.Snap, want.Log = index, index-1, "x", left
		if c, e := replica.Compact(n, index, "x"); e != api.OK || !replica.Same(c, want) {
			t.Errorf("%+v, %v", c, e)
		}
	}
}

func TestP1504Same(t *testing.T) {
	for i, change := range []func(n *replica.Node){
		func(n *replica.Node) { n.Id++ }, func(n *replica.Node) { n.Term++ }, func(n *replica.Node) { n.Vote++ }, func(n *replica.Node) { n.Base++ }, func(n *replica.Node) { n.BaseTerm++ },
		func(n *replica.Node) { n.Snap = "" }, func(n *replica.Node) { n.Log[1].Cmd = "" }, func(n *replica.Node) { n.Role++ }, func(n *replica.Node) { n.Commit++ }, func(n *replica.Node) { n.Wait++ },
		func(n *replica.Node) { n.Votes[2] = true }, func(n *replica.Node) { n.Next[0]++ }, func(n *replica.Node) { n.Match[2]++ },
	} {
		n := leader()
		if change(&n); replica.Same(n, leader()) {
			t.Errorf("change %d is not seen", i)
		}
	}
	if !replica.Same(leader(), leader()) || !replica.Same(replica.New(0), replica.Node{Vote: -1, Log: []replica.Entry{}}) {
		t.Error("equal ones differ")
	}
}

// Whatever is passed, nothing panics.
func TestP1AnyNodes(t *testing.T) {
	rnd := rand.New(rand.NewSource(1))
	number := func() int {
		return []int{0, 1, 2, 3, 5, -1, math.MaxInt, math.MinInt, math.MaxInt - 1, 1 << 30}[rnd.Intn(10)]
	}
	for range 20000 {
		n := replica.Node{Id: number(), Term: number(), Vote: number(), Base: number(), BaseTerm: number(), Role: number(), Commit: number(), Wait: number(), Next: [3]int{number(), number(), number()}, Match: [3]int{number(), number(), number()}}
		n.Log = log(make([]int, rnd.Intn(4))...)
		m := replica.Msg{Kind: 1 + rnd.Intn(5), From: number(), To: n.Id, Term: number(), Index: number(), LogTerm: number(), Commit: number(), Yes: rnd.Intn(2) == 0, Entries: log(make([]int, rnd.Intn(3))...)}
		replica.Tick(n)
		replica.Take(n, m)
		replica.Propose(n, "x")
		replica.Compact(n, number(), "x")
		replica.Last(n)
		replica.Wake(n)
	}
}

// Three nodes, messages that are lost, doubled and shuffled, nodes that lose their power and compact their logs.
func TestP1505(t *testing.T) {
	for seed := range 40 {
		rnd := rand.New(rand.NewSource(int64(seed)))
		nodes := [3]replica.Node{replica.New(0), replica.New(1), replica.New(2)}
		var under []replica.Msg
		leaders := map[int]int{}
		committed := map[int]replica.Entry{}
		for step := range 6000 {
			i := rnd.Intn(3)
			var sent []replica.Msg
			switch p := rnd.Intn(40); {
			case p < 12:
				nodes[i], sent = replica.Tick(nodes[i])
			case p < 34 && len(under) > 0:
				k := rnd.Intn(min(len(under), 9))
				m := under[k]
				if rnd.Intn(12) > 0 {
					under = slices.Delete(under, k, k+1)
				}
				if rnd.Intn(12) > 0 {
					nodes[m.To], sent = replica.Take(nodes[m.To], m)
				}
			case p < 37:
				nodes[i], _, _ = replica.Propose(nodes[i], string(rune('A'+step%26)))
			case p == 37 && rnd.Intn(4) == 0:
				nodes[i] = replica.Wake(nodes[i])
			case p == 38 && nodes[i].Commit > nodes[i].Base+3:
				nodes[i], _ = replica.Compact(nodes[i], nodes[i].Commit-rnd.Intn(3), "snap")
			}
			under = append(under, sent...)
			under = under[max(0, len(under)-60):]
			checkNodes(t, nodes, leaders, committed)
		}
		if len(committed) < 20 {
			t.Errorf("seed %d: little was committed: %d", seed, len(committed))
		}
	}
}

func checkNodes(t *testing.T, nodes [3]replica.Node, leaders map[int]int, committed map[int]replica.Entry) {
	t.Helper()
	for id, n := range nodes {
		if first, ok := leaders[n.Term]; n.Role == replica.Leader && ok && first != id {
			t.Fatalf("%d and %d lead in term %d", first, id, n.Term)
		} else if n.Role == replica.Leader {
			leaders[n.Term] = id
		}
		for index := n.Base + 1; index <= n.Commit; index++ {
			e := n.Log[index-n.Base-1]
			if known, ok := committed[index]; ok && known != e {
				t.Fatalf("entry %d: %v and %v", index, known, e)
			}
			committed[index] = e
		}
		for _, o := range nodes[:id] {
			agree := false
			last, _ := replica.Last(n)
			for index := last; index > max(n.Base, o.Base); index-- {
				if index > o.Base+len(o.Log) {
					continue
				}
				a, b := n.Log[index-n.Base-1], o.Log[index-o.Base-1]
				if agree && a != b {
					t.Fatalf("entry %d: %v and %v below one that is the same", index, a, b)
				}
				agree = agree || a.Term == b.Term
			}
		}
	}
}
