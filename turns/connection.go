package turns

import (
	"relay/api"
	"relay/frames"
)

// connection has the requests that have not been done, and the answers of those that have.
// While it is served both are its goroutine's alone; others use the channels.
type connection struct {
	client  int
	waiting []api.Frame
	answers []byte
	// turn says that the next request is to be done.
	turn chan struct{}
	// left says whether there are requests that have not been done:
	// once ahead of all turns, and once behind each.
	left chan bool
}

func newConnection(client int) *connection {
	return &connection{client: client, turn: make(chan struct{}), left: make(chan bool)}
}

// serve does a request at each turn, until end is closed.
func (c *connection) serve(chunks [][]byte, answer Answer, end <-chan struct{}) {
	c.split(chunks)
	c.left <- len(c.waiting) > 0
	for {
		select {
		case <-c.turn:
			c.doNext(answer)
			c.left <- len(c.waiting) > 0
		case <-end:
			return
		}
	}
}

// split takes the requests out of the stream. That a stream breaks, or ends
// within a frame, is not told to anyone: the frames ahead of it count.
func (c *connection) split(chunks [][]byte) {
	var stream frames.Splitter
	for _, chunk := range chunks {
		whole, _ := stream.Feed(chunk)
		c.waiting = append(c.waiting, whole...)
	}
}

func (c *connection) doNext(answer Answer) {
	request := c.waiting[0]
	c.waiting = c.waiting[1:]
	// The mark and the unit came out of a frame, and an answer is made to fit into one.
	framed, _ := frames.Encode(request.Mark, request.Unit, answer(c.client, request.Data))
	c.answers = append(c.answers, framed...)
}

// takeTurn has the next request done, and says whether there are others behind it.
func (c *connection) takeTurn() bool {
	c.turn <- struct{}{}
	return <-c.left
}
