package gproto

import (
	"postchaise/api"
	"postchaise/gframe"
	"postchaise/window"
)

// say: f stands behind what was said. What a right drive says is always a packet.
func (e *end) say(f api.GFrame) {
	s, _ := gframe.Write(f)
	e.said.WriteString(s)
}

func (e *end) sayControl(high, low int) {
	e.say(api.GFrame{Type: api.GControl, High: high, Low: low})
}

// sayOpening: the opening packet of that step.
func (e *end) sayOpening(step int) {
	low := e.Room
	if step == sizeStep {
		low = gframe.Code(e.Size) - 1
	}
	e.sayControl(openingHigh(step), low)
}

func (e *end) sayReady() { e.sayControl(api.GReady, e.last()) }

func (e *end) sayReject() { e.sayControl(api.GReject, e.last()) }

func (e *end) sayClose() { e.sayControl(api.GClose, 0) }

// last: the number of the last packet that came in order.
func (e *end) last() int { return (e.Wants + modulus - 1) % modulus }

// sayWindow: all texts of the window, in order.
func (e *end) sayWindow() {
	for i, number := range window.Numbers(e.Win) {
		e.sayText(number, e.Win.List[i])
	}
}

// sayText: a text of the window as a packet.
func (e *end) sayText(number int, text string) {
	f := api.GFrame{Type: api.GLong, High: number, Low: e.last(), Size: e.Size, Data: text}
	if len(text) < e.Size {
		f.Type, f.Size = api.GShort, e.shortSize(len(text))
	}
	e.say(f)
}

// shortSize: the size of a short packet with n bytes: of G as little as has room for them and for a count.
func (e *end) shortSize(n int) int {
	size := e.Size
	if e.Letter != 'G' {
		return size
	}
	for size > leastSize && size/2 > n {
		size /= 2
	}
	return size
}
