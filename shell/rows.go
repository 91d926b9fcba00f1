package shell

import (
	"strconv"
	"strings"

	"escrow/api"
	"escrow/audit"
	"escrow/edge"
	"escrow/group"
	"escrow/world"
)

const (
	clients   = 3
	ids       = 50
	maxDigits = 9
)

// session is what the lines of a script work on.
type session struct{ world *world.World }

func begin() (session, api.Errno) {
	w, e := world.New([]api.Counter{{Key: "x", Hi: 20, Start: 10}, {Key: "y", Coll: 1, Lo: -100, Hi: 100}}, ids, clients)
	return session{w}, e
}

// args is the words behind a command's name: the numbers, the texts.
type args struct {
	n []int
	t []string
}

// action does a line and tells its output.
type action func(session, args) string

// row is a command: what its words must be (n: a number, T: any word), and what it does.
type row struct {
	form string
	run  action
}

func rows() map[string]row {
	return map[string]row{
		"register": {"n", ofClient((*edge.Edge).Register)},
		"close":    {"n", ofClient((*edge.Edge).Close)},
		"checkout": {"nTnnnn", session.checkout},
		"do":       {"nnnTTn", session.do},
		"send":     {"nn", session.send},
		"deliver":  {"n", ofWorld((*world.World).Deliver)},
		"drop":     {"n", ofWorld((*world.World).Drop)},
		"twice":    {"n", ofWorld((*world.World).Twice)},
		"clock":    {"n", session.clock},
		"sync":     {"n", session.sync},
		"crash":    {"nn", session.crash},
		"reclaim":  {"n", order((*world.World).Reclaim)},
		"lose":     {"n", order((*world.World).Lose)},
		"down":     {"n", ofGroup((*group.Group).Crash)},
		"up":       {"n", ofGroup((*group.Group).Wake)},
		"read":     {"nT", ofState(read)},
		"members":  {"nT", ofState(members)},
		"count":    {"nT", ofState(count)},
		"state":    {"n", ofState(state)},
		"values":   {"", session.values},
		"kept":     {"", holds(audit.Kept)},
		"even":     {"", holds(audit.Even)},
		"up2":      {"Tnn", session.convert},
	}
}

// parse tells what words say that must be of a form.
func parse(form string, words []string) (args, bool) {
	if len(words) != len(form) {
		return args{}, false
	}
	var a args
	for i, w := range words {
		if form[i] == 'T' {
			a.t = append(a.t, w)
			continue
		}
		n, ok := number(w)
		if !ok {
			return args{}, false
		}
		a.n = append(a.n, n)
	}
	return a, true
}

// number reads a number; there is one way only to write it.
func number(w string) (int, bool) {
	n, err := strconv.Atoi(w)
	if err != nil || strconv.Itoa(n) != w || len(strings.TrimPrefix(w, "-")) > maxDigits {
		return 0, false
	}
	return n, true
}
