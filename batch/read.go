package batch

import (
	"gazette/api"
	"gazette/wire"
)

// reader goes through bytes from at on and keeps what it has read of the batch.
type reader struct {
	bytes []byte
	at    int
	flags int
	batch api.Batch
}

// read asks only whether every part is there: what the parts say is looked at when the last one has been read.
func read(x []byte) (api.Batch, api.Errno) {
	r := reader{bytes: x}
	for _, part := range [...]func() api.Errno{r.kind, r.flag, r.producer, r.epoch, r.seq, r.records} {
		if e := part(); e != api.OK {
			return api.Batch{}, e
		}
	}
	return r.batch, api.OK
}

func (r *reader) number(into *int, size int) (e api.Errno) {
	*into, r.at, e = wire.Get(r.bytes, r.at, size)
	return e
}

func (r *reader) text(into *string) (e api.Errno) {
	*into, r.at, e = wire.GetText(r.bytes, r.at)
	return e
}

func (r *reader) kind() api.Errno { return r.number(&r.batch.Kind, kindSize) }

func (r *reader) flag() api.Errno {
	e := r.number(&r.flags, flagsSize)
	r.batch.InTxn = r.flags&inTxn != 0
	return e
}

func (r *reader) producer() api.Errno {
	e := r.number(&r.batch.Producer, producerSize)
	if r.flags&owned == 0 {
		r.batch.Producer = nobody
	}
	return e
}

func (r *reader) epoch() api.Errno { return r.number(&r.batch.Epoch, epochSize) }

func (r *reader) seq() api.Errno { return r.number(&r.batch.Seq, seqSize) }

// records makes room as they come and not as they are told: few bytes may tell of many.
func (r *reader) records() api.Errno {
	count := 0
	if e := r.number(&count, countSize); e != api.OK {
		return e
	}
	for range count {
		if e := r.record(); e != api.OK {
			return e
		}
	}
	return api.OK
}

func (r *reader) record() api.Errno {
	var dead int
	var next api.Record
	if e := r.number(&dead, deadSize); e != api.OK {
		return e
	}
	if e := r.text(&next.Key); e != api.OK {
		return e
	}
	if e := r.text(&next.Value); e != api.OK {
		return e
	}
	next.Dead = dead == 1
	r.batch.Records = append(r.batch.Records, next)
	return api.OK
}
