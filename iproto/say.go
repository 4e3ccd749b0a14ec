package iproto

import (
	"postchaise/api"
	"postchaise/iframe"
	"postchaise/octet"
	"postchaise/window"
)

// say: f, from this end, stands behind what was said. What a right drive says is always a packet.
func (e *end) say(f api.IFrame) {
	f.Caller, f.Ack = e.Caller, e.last()
	s, _ := iframe.Write(f)
	e.said.WriteString(s)
}

// last: the number of the last packet that came in order.
func (e *end) last() int { return (e.Wants + modulus - 1) % modulus }

func (e *end) saySync() {
	size, _ := octet.Put(e.Size, sizeBytes)
	room, _ := octet.Put(e.Room, roomBytes)
	e.say(api.IFrame{Kind: api.ISync, Data: size + room})
}

func (e *end) sayAck() { e.say(api.IFrame{Kind: api.IAck}) }

func (e *end) sayNak() { e.say(api.IFrame{Kind: api.INak, Number: e.Wants}) }

func (e *end) sayClose() { e.say(api.IFrame{Kind: api.IClose}) }

// sayWindow: all texts of the window, in order.
func (e *end) sayWindow() {
	for i, number := range window.Numbers(e.Win) {
		e.sayText(number, e.Win.List[i])
	}
}

// sayText: a text of the window, a channel's byte ahead of its bytes, as a packet.
func (e *end) sayText(number int, text string) {
	e.say(api.IFrame{Kind: api.IData, Number: number, Channel: int(text[0]), Data: text[channelBytes:]})
}
