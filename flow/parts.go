package flow

import (
	"iter"
	"maps"
	"slices"

	"covey/api"
)

const (
	firstOut  = 1000
	mostOut   = 60000
	mostOuts  = 6
	laterAcks = 3
	mostAhead = 34
)

// packet is a packet with a number that was sent.
type packet struct {
	serial int
	kind   int
	body   string
	sentAt int
	times  int
	under  bool
	acked  bool
	fast   bool
}

// size is the size of a packet for limits.
func size(body string) int { return max(1, len(body)) }

// told is what happened since it was asked last.
type told struct{ bytes, lost, outs, trip, tripOf int }

// outgoing is the direction in which an end sends: packets that were sent and are not behind the others' Ack, those that wait, and what was told.
type outgoing struct {
	first, next int
	sent        []*packet
	underCount  int
	underBytes  int
	fresh       []packet
	freshBytes  int
	limit       int
	others      int
	body        int
	out         int
	outs        int
	told        told
	sentCount   int
	againCount  int
}

// number is the number on the circle of a packet.
func (o *outgoing) number(serial int) int { return turn(o.first + serial) }

// way yields the packets that are under way, or those that go again.
func (o *outgoing) way(under bool) iter.Seq[*packet] {
	return func(yield func(*packet) bool) {
		for _, p := range o.sent {
			if !p.acked && p.under == under && !yield(p) {
				return
			}
		}
	}
}

// put sets whether a packet is under way.
func (o *outgoing) put(p *packet, under bool) {
	if p.under == under {
		return
	}
	p.under = under
	if under {
		o.underCount++
		o.underBytes += size(p.body)
	} else {
		o.underCount--
		o.underBytes -= size(p.body)
	}
}

// waiting is how many bytes were not sent yet, with those that go again.
func (o *outgoing) waiting() int {
	n := o.freshBytes
	for p := range o.way(false) {
		n += len(p.body)
	}
	return n
}

// earliest is the earliest time of sending of those under way; false if nothing is.
func (o *outgoing) earliest() (int, bool) {
	t, some := 0, false
	for p := range o.way(true) {
		if !some || p.sentAt < t {
			t, some = p.sentAt, true
		}
	}
	return t, some
}

// timeOut is the time out as it is doubled now.
func (o *outgoing) timeOut() int { return min(mostOut, o.out<<o.outs) }

// late takes for lost what is too late; true tells that it was so too often.
func (o *outgoing) late(now int) bool {
	t, some := o.earliest()
	if !some || now-t <= o.timeOut() {
		return false
	}
	o.outs++
	o.told.outs++
	if o.outs >= mostOuts {
		return true
	}
	for p := range o.way(true) {
		o.put(p, false)
	}
	return false
}

// serial is the packet that an Ack names; false if none with its number was sent yet.
func (o *outgoing) serial(ack int) (int, bool) {
	back := turn(o.number(o.next-1) - ack)
	return o.next - 1 - back, back < half
}

// ack takes what an Ack and its marks name.
func (o *outgoing) ack(now, ack int, marks string) {
	last, ok := o.serial(ack)
	if !ok {
		return
	}
	beyond := named(marks)
	for _, p := range o.sent {
		if p.serial > last+lastMark {
			break
		}
		if p.acked || p.serial > last && !slices.Contains(beyond, p.serial-last) {
			continue
		}
		p.acked = true
		o.told.bytes += size(p.body)
		if p.under {
			o.outs = 0
			o.put(p, false)
		}
		if p.times == 1 && p.serial > o.told.tripOf {
			o.told.trip, o.told.tripOf = now-p.sentAt, p.serial
		}
	}
	o.skipped()
	for len(o.sent) > 0 && o.sent[0].acked {
		o.sent = o.sent[1:]
	}
}

// skipped takes for lost what lies ahead of three that were acknowledged.
func (o *outgoing) skipped() {
	later := 0
	for _, p := range slices.Backward(o.sent) {
		if p.acked {
			later++
		} else if p.under && later >= laterAcks && !p.fast {
			p.fast = true
			o.put(p, false)
			o.told.lost++
		}
	}
}

// fits reports whether a packet may go now.
func (o *outgoing) fits(body string) bool {
	return o.underCount == 0 || o.underBytes+size(body) <= min(o.limit, o.others)
}

// goes notes that a packet goes.
func (o *outgoing) goes(p *packet, now int) {
	p.sentAt = now
	p.times++
	o.put(p, true)
}

// add puts a packet behind those that wait.
func (o *outgoing) add(kind int, body string) {
	o.fresh = append(o.fresh, packet{kind: kind, body: body})
	o.freshBytes += len(body)
}

// forget drops all that was sent or waits.
func (o *outgoing) forget() {
	o.sent, o.fresh = nil, nil
	o.freshBytes, o.underCount, o.underBytes = 0, 0, 0
}

// arrived is a packet that came out of order.
type arrived struct {
	kind int
	body string
}

// incoming is the direction from which an end takes: the last number up to which all came, what is kept beyond it, and what was passed.
type incoming struct {
	room      int
	came      bool
	last      int
	kept      map[int]arrived
	keptBytes int
	passed    string
	ended     bool
	doubles   int
	due       bool
	time      int
	heard     bool
	talked    bool
}

// window is the room that is left.
func (i *incoming) window() int { return max(0, i.room-i.keptBytes-len(i.passed)) }

// ackNow is the Ack as it is now, with its marks.
func (i *incoming) ackNow() (int, string) {
	if !i.came {
		return 0, ""
	}
	var beyond []int
	for _, n := range slices.Sorted(maps.Keys(i.kept)) {
		if d := turn(n - i.last); within(d, firstMark, lastMark) {
			beyond = append(beyond, d)
		}
	}
	return i.last, mark(beyond)
}

// take takes a packet with data, or an end.
func (i *incoming) take(p api.Segment) {
	i.due = true
	d := turn(p.Seq - i.last)
	_, kept := i.kept[p.Seq]
	if kept || d == 0 || d > half {
		i.doubles++
		return
	}
	if d > mostAhead || i.ended || len(p.Body) > i.window() {
		return
	}
	i.kept[p.Seq] = arrived{p.Kind, p.Body}
	i.keptBytes += len(p.Body)
	i.pass()
}

// pass passes what came in order to the reader.
func (i *incoming) pass() {
	for !i.ended {
		n := turn(i.last + 1)
		x, ok := i.kept[n]
		if !ok {
			return
		}
		delete(i.kept, n)
		i.keptBytes -= len(x.body)
		i.passed += x.body
		i.last = n
		i.ended = x.kind == api.FEnd
	}
}
