package world

import (
	"escrow/front"
)

// written is what a client would send to a server now.
func (w *World) written(i, server int) letter {
	return letter{client: i, server: server, bytes: w.clients[i].edge.Next()}
}

// letters hands out what each client would send to a server now, in order.
func (w *World) letters(server int) <-chan letter {
	out := make(chan letter, len(w.clients))
	for i := range w.clients {
		out <- w.written(i, server)
	}
	close(out)
	return out
}

// deliverAll delivers the messages under way, and those that they cause, until there are none.
func (w *World) deliverAll() {
	for len(w.under) > 0 {
		mail := make(chan letter, len(w.under))
		for _, l := range w.under {
			mail <- l
		}
		w.under = nil
		for w.next(mail) {
		}
	}
}

// next delivers a message; false: there is no more.
func (w *World) next(mail <-chan letter) bool {
	select {
	case l := <-mail:
		w.take(l)
		return true
	default:
		return false
	}
}

// take hands a message to whom it is addressed; what a server answers is put under way.
func (w *World) take(l letter) {
	if l.down {
		w.clients[l.client].edge.Take(l.bytes)
		return
	}
	if b := front.Take(w.group, l.server, l.bytes); b != nil {
		w.under = append(w.under, letter{client: l.client, server: l.server, down: true, bytes: b})
	}
}
