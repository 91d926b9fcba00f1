package group

import (
	"strings"

	"escrow/api"
	"escrow/code"
	"escrow/desk"
	"escrow/replica"
	"escrow/wire"
)

const maxLog = 40 // entries, until a snapshot stands for those that are committed

// server is a node, and the desk that has executed its log up to reached.
type server struct {
	node    replica.Node
	desk    api.Desk
	reached int
	up      bool
}

// restart begins with a node's snapshot.
func (s *server) restart(n replica.Node, start api.Desk) {
	s.node, s.desk, s.reached = n, start, n.Base
	for _, cmd := range commands(n.Snap) {
		s.execute(cmd)
	}
}

// step executes the next entry, and tells its term and its answer.
func (s *server) step() (int, api.Reply) {
	entry := s.node.Log[s.reached-s.node.Base]
	s.reached++
	return entry.Term, s.execute(entry.Cmd)
}

func (s *server) execute(cmd string) api.Reply {
	if cmd == "" {
		return api.Reply{}
	}
	c, e := wire.ParseCmd([]byte(cmd))
	if e != api.OK {
		return api.Reply{}
	}
	var r api.Reply
	s.desk, r = desk.Do(s.desk, c)
	return r
}

// compact puts a snapshot in the place of what is committed, once the log is long.
func (s *server) compact() {
	n := s.node
	if len(n.Log) <= maxLog || n.Commit <= n.Base {
		return
	}
	var snap strings.Builder
	snap.WriteString(n.Snap)
	for _, entry := range n.Log[:n.Commit-n.Base] {
		if entry.Cmd != "" {
			snap.Write(code.Text(nil, entry.Cmd))
		}
	}
	s.node, _ = replica.Compact(n, n.Commit, snap.String())
}

// commands takes a snapshot to pieces. A Reader would refuse a command of more bytes than a text may have.
func commands(snap string) []string {
	var l []string
	for len(snap) > 0 {
		size := code.New([]byte(snap[:numberLen(snap)])).Int()
		snap = snap[numberLen(snap):]
		size = min(max(size, 0), len(snap))
		l = append(l, snap[:size])
		snap = snap[size:]
	}
	return l
}

// numberLen tells how many bytes the number has that a text begins with.
func numberLen(s string) int {
	for i := range len(s) {
		if s[i] < 128 {
			return i + 1
		}
	}
	return len(s)
}
