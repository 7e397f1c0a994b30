package client

import (
	"gazette/api"
	"gazette/broker"
)

// Turn is the number of the broker that is asked first.
func Turn(x *Client) int { return x.turn }

// SetNext has n be the number that comes next: no test sends that much.
func SetNext(x *Client, part, n int) { x.next[part] = n }

// Try is try, of calls of the test's own.
func Try[T any](x *Client, call func(*broker.Broker) (T, api.Errno)) (told T, e api.Errno, passes bool) {
	return try(x, call)
}
