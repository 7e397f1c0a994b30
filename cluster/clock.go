package cluster

import "gazette/api"

const (
	maxTick = 3600
	maxNow  = 1 << 40
)

// clock counts seconds.
type clock struct {
	now int
}

// goOn lets n seconds pass.
func (k *clock) goOn(n int) api.Errno {
	if n < 0 || n > maxTick || k.now+n > maxNow {
		return api.ErrArg
	}
	k.now += n
	return api.OK
}
