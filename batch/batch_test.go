package batch_test

import (
	"bytes"
	"encoding/binary"
	"math"
	"math/rand/v2"
	"reflect"
	"slices"
	"strings"
	"testing"

	"gazette/api"
	"gazette/batch"
)

const top = 1<<31 - 1 // the greatest Epoch

func letters(n int) string { return strings.Repeat("x", n) }

func records(n int) []api.Record {
	list := make([]api.Record, n)
	for i := range list {
		list[i] = api.Record{Key: "k", Value: letters(i)}
	}
	return list
}

func one(r api.Record) []api.Record { return []api.Record{r} }

// filling answers Records of a batch of just n bytes; n is far above one Record's bytes.
func filling(n int) []api.Record {
	var list []api.Record
	for n -= 18; n > 5005; n -= 5005 {
		list = append(list, api.Record{Key: letters(1000), Value: letters(4000)})
	}
	return append(list, api.Record{Value: letters(n - 5)})
}

func plain(producer, epoch, seq int, txn bool, list []api.Record) api.Batch {
	return api.Batch{Kind: api.Plain, Producer: producer, Epoch: epoch, Seq: seq, InTxn: txn, Records: list}
}

func marker(kind, producer, epoch int) api.Batch {
	return api.Batch{Kind: kind, Producer: producer, Epoch: epoch}
}

func same(a, b api.Batch) bool {
	list := slices.Equal(a.Records, b.Records)
	a.Records, b.Records = nil, nil
	return list && reflect.DeepEqual(a, b)
}

func mustEncode(t *testing.T, b api.Batch) []byte {
	t.Helper()
	x, e := batch.Encode(b)
	if e != api.OK {
		t.Fatalf("Encode(%v): %d", brief(b), e)
	}
	return x
}

// brief leaves out the texts, which may be long.
func brief(b api.Batch) []any {
	return []any{b.Kind, b.Producer, b.Epoch, b.Seq, b.InTxn, len(b.Records)}
}

// good are batches that may be, with the edges of each part.
func good() []api.Batch {
	list := []api.Batch{
		marker(api.Commit, 0, 0),
		marker(api.Abort, 7, 9),
		marker(api.Commit, api.MaxNumber-1, top),
		{Kind: api.Abort, Producer: 1, Records: []api.Record{}},
		plain(-1, 0, 0, false, one(api.Record{Key: "k", Value: "v"})),
		plain(-1, 0, 0, false, records(64)),
		plain(0, 0, 0, false, one(api.Record{})),
		plain(1, 2, 3, true, one(api.Record{Key: "k", Dead: true})),
		plain(0x060504030201, 0x0D0C0B0A, 0x14131211, true, records(2)),
		plain(api.MaxNumber-1, top, api.MaxSeq-1, true, one(api.Record{Value: "v"})),
		plain(5, top, api.MaxSeq-64, false, records(64)),
		plain(5, 0, 1, false, one(api.Record{Key: letters(1000), Value: letters(4000)})),
		plain(5, 0, 1, false, one(api.Record{Key: letters(1000), Dead: true})),
		plain(5, 0, 1, true, []api.Record{{Key: "\x00\xff", Value: "\xfe\x00é"}, {Dead: true}, {Key: "k", Value: letters(300)}}),
		plain(-1, 0, 0, false, filling(api.MaxBytes)),
		plain(5, 1, 1, true, filling(api.MaxBytes-1)),
	}
	return list
}

// P202

func TestCheckLetsPassWhatMayBe(t *testing.T) {
	for _, b := range good() {
		if e := batch.Check(b); e != api.OK {
			t.Errorf("Check(%v): %d", brief(b), e)
		}
	}
}

func TestCheckOneWrongThing(t *testing.T) {
	rec := one(api.Record{Key: "k", Value: "v"})
	for name, c := range map[string]struct {
		b api.Batch
		e api.Errno
	}{
		"nothing at all":                {api.Batch{}, api.ErrArg},
		"Kind 0":                        {api.Batch{Kind: 0, Producer: 1, Records: rec}, api.ErrArg},
		"Kind 4":                        {api.Batch{Kind: 4, Producer: 1}, api.ErrArg},
		"Kind below 0":                  {api.Batch{Kind: -1, Producer: 1, Records: rec}, api.ErrArg},
		"Kind one byte above Plain":     {api.Batch{Kind: 257, Producer: 1, Records: rec}, api.ErrArg},
		"Producer -2":                   {plain(-2, 0, 0, false, rec), api.ErrArg},
		"Producer MaxNumber":            {plain(api.MaxNumber, 0, 0, false, rec), api.ErrArg},
		"least Producer":                {plain(math.MinInt, 0, 0, false, rec), api.ErrArg},
		"greatest Producer":             {plain(math.MaxInt, 0, 0, false, rec), api.ErrArg},
		"Epoch -1":                      {plain(1, -1, 0, false, rec), api.ErrArg},
		"Epoch 2^31":                    {plain(1, top+1, 0, false, rec), api.ErrArg},
		"greatest Epoch":                {plain(1, math.MaxInt, 0, false, rec), api.ErrArg},
		"nobody's, Epoch 1":             {plain(-1, 1, 0, false, rec), api.ErrArg},
		"nobody's, Epoch -1":            {plain(-1, -1, 0, false, rec), api.ErrArg},
		"nobody's, Seq 1":               {plain(-1, 0, 1, false, rec), api.ErrArg},
		"nobody's, Seq -1":              {plain(-1, 0, -1, false, rec), api.ErrArg},
		"nobody's, Seq MaxSeq":          {plain(-1, 0, api.MaxSeq, false, rec), api.ErrArg},
		"nobody's, InTxn":               {plain(-1, 0, 0, true, rec), api.ErrArg},
		"Commit of nobody":              {marker(api.Commit, -1, 0), api.ErrArg},
		"Abort of nobody":               {marker(api.Abort, -1, 0), api.ErrArg},
		"marker, Producer -2":           {marker(api.Commit, -2, 0), api.ErrArg},
		"marker, Producer MaxNumber":    {marker(api.Abort, api.MaxNumber, 0), api.ErrArg},
		"marker, Epoch -1":              {marker(api.Commit, 1, -1), api.ErrArg},
		"marker, Epoch 2^31":            {marker(api.Abort, 1, top+1), api.ErrArg},
		"marker, Seq 1":                 {api.Batch{Kind: api.Commit, Producer: 1, Seq: 1}, api.ErrArg},
		"marker, Seq -1":                {api.Batch{Kind: api.Abort, Producer: 1, Seq: -1}, api.ErrArg},
		"marker, InTxn":                 {api.Batch{Kind: api.Abort, Producer: 1, InTxn: true}, api.ErrArg},
		"marker with a Record":          {api.Batch{Kind: api.Commit, Producer: 1, Records: rec}, api.ErrSize},
		"nil Records":                   {plain(1, 0, 0, false, nil), api.ErrSize},
		"no Records":                    {plain(1, 0, 0, false, []api.Record{}), api.ErrSize},
		"nobody's, no Records":          {plain(-1, 0, 0, false, nil), api.ErrSize},
		"65 Records":                    {plain(1, 0, 0, false, records(65)), api.ErrSize},
		"Key of 1001":                   {plain(1, 0, 0, false, one(api.Record{Key: letters(1001)})), api.ErrSize},
		"Value of 4001":                 {plain(1, 0, 0, false, one(api.Record{Value: letters(4001)})), api.ErrSize},
		"a later Key of 1001":           {plain(1, 0, 0, false, []api.Record{{}, {Key: letters(1001)}}), api.ErrSize},
		"Key of 70000":                  {plain(1, 0, 0, false, one(api.Record{Key: letters(70000)})), api.ErrSize},
		"Dead with a Value":             {plain(1, 0, 0, false, one(api.Record{Key: "k", Value: "v", Dead: true})), api.ErrSize},
		"Seq -1":                        {plain(1, 0, -1, false, rec), api.ErrOver},
		"least Seq":                     {plain(1, 0, math.MinInt, false, rec), api.ErrOver},
		"Seq MaxSeq":                    {plain(1, 0, api.MaxSeq, false, rec), api.ErrOver},
		"greatest Seq":                  {plain(1, 0, math.MaxInt, true, rec), api.ErrOver},
		"Seq and Len one above MaxSeq":  {plain(1, 0, api.MaxSeq-63, false, records(64)), api.ErrOver},
		"Seq MaxSeq - 1 with 2 Records": {plain(1, 0, api.MaxSeq-1, false, records(2)), api.ErrOver},
		"one byte more than MaxBytes":   {plain(1, 0, 0, false, filling(api.MaxBytes+1)), api.ErrSize},
		"nobody's, one byte more":       {plain(-1, 0, 0, false, filling(api.MaxBytes+1)), api.ErrSize},
	} {
		if e := batch.Check(c.b); e != c.e {
			t.Errorf("%s: %d, not %d", name, e, c.e)
		}
	}
}

func TestCheckTwoWrongThings(t *testing.T) {
	rec := one(api.Record{Key: "k"})
	long := one(api.Record{Key: letters(1001)})
	dead := one(api.Record{Value: "v", Dead: true})
	for name, c := range map[string]struct {
		b api.Batch
		e api.Errno
	}{
		"Kind and Records":          {api.Batch{Kind: 9, Producer: 1, Records: records(65)}, api.ErrArg},
		"Kind and Seq":              {api.Batch{Kind: 9, Producer: 1, Seq: -1, Records: rec}, api.ErrArg},
		"Producer and Records":      {plain(-2, 0, 0, false, nil), api.ErrArg},
		"Producer and Seq":          {plain(api.MaxNumber, 0, -1, false, rec), api.ErrArg},
		"Epoch and Key":             {plain(1, -1, 0, false, long), api.ErrArg},
		"Epoch and Seq":             {plain(1, top+1, api.MaxSeq, false, rec), api.ErrArg},
		"Epoch and bytes":           {plain(1, -1, 0, false, filling(api.MaxBytes+1)), api.ErrArg},
		"nobody's Seq and Records":  {plain(-1, 0, 1, false, nil), api.ErrArg},
		"nobody's Txn and a Value":  {plain(-1, 0, 0, true, dead), api.ErrArg},
		"marker's Seq and Records":  {api.Batch{Kind: api.Commit, Producer: 1, Seq: 1, Records: rec}, api.ErrArg},
		"marker's Txn and Records":  {api.Batch{Kind: api.Abort, Producer: 1, InTxn: true, Records: rec}, api.ErrArg},
		"marker, no Kind, no Seq":   {api.Batch{Kind: api.Abort, Producer: -1, Seq: -1, Records: rec}, api.ErrArg},
		"no Records and Seq":        {plain(1, 0, -1, false, nil), api.ErrSize},
		"no Records and Seq MaxSeq": {plain(1, 0, api.MaxSeq+1, false, nil), api.ErrSize},
		"65 Records and Seq":        {plain(1, 0, api.MaxSeq, false, records(65)), api.ErrSize},
		"Key and Seq":               {plain(1, 0, -1, false, long), api.ErrSize},
		"Dead's Value and Seq":      {plain(1, 0, api.MaxSeq, false, dead), api.ErrSize},
		"Seq below 0 and bytes":     {plain(1, 0, -1, false, filling(api.MaxBytes+1)), api.ErrOver},
		"Seq above and bytes":       {plain(1, 0, api.MaxSeq-1, false, filling(api.MaxBytes+1)), api.ErrOver},
	} {
		if e := batch.Check(c.b); e != c.e {
			t.Errorf("%s: %d, not %d", name, e, c.e)
		}
	}
}

// checked does what P202 says, word by word.
func checked(b api.Batch) api.Errno {
	numbers := b.Producer >= 0 && b.Producer <= api.MaxNumber-1 && b.Epoch >= 0 && b.Epoch <= top
	bare := b.Seq == 0 && !b.InTxn
	length := len(b.Records)
	var arg, count bool
	switch b.Kind {
	case api.Plain:
		arg = numbers || b.Producer == -1 && b.Epoch == 0 && bare
		count = length >= 1 && length <= api.MaxBatch
	case api.Commit, api.Abort:
		arg = numbers && bare
		count = length == 0
		length = 1
	}
	if !arg {
		return api.ErrArg
	}
	total := 1 + 1 + 6 + 4 + 4 + 2
	for _, r := range b.Records {
		count = count && len(r.Key) <= 1000 && len(r.Value) <= 4000 && (!r.Dead || r.Value == "")
		total += 1 + 2 + len(r.Key) + 2 + len(r.Value)
	}
	switch {
	case !count:
		return api.ErrSize
	case b.Seq < 0 || b.Seq >= api.MaxSeq || b.Seq+length > api.MaxSeq:
		return api.ErrOver
	case total > api.MaxBytes:
		return api.ErrSize
	}
	return api.OK
}

func TestCheckAllEdgesTogether(t *testing.T) {
	lists := [][]api.Record{
		nil, {}, records(1), records(2), records(64), records(65), filling(api.MaxBytes), filling(api.MaxBytes + 1),
		one(api.Record{Key: letters(1000)}), one(api.Record{Key: letters(1001)}),
		one(api.Record{Value: letters(4000)}), one(api.Record{Value: letters(4001)}),
		one(api.Record{Dead: true}), one(api.Record{Value: "v", Dead: true}),
	}
	for _, kind := range []int{math.MinInt, -1, 0, 1, 2, 3, 4, math.MaxInt} {
		for _, producer := range []int{math.MinInt, -2, -1, 0, api.MaxNumber - 1, api.MaxNumber, math.MaxInt} {
			for _, epoch := range []int{math.MinInt, -1, 0, 1, top, top + 1, math.MaxInt} {
				for _, seq := range []int{math.MinInt, -1, 0, 1, api.MaxSeq - 64, api.MaxSeq - 63, api.MaxSeq - 2, api.MaxSeq - 1, api.MaxSeq, math.MaxInt} {
					for _, list := range lists {
						for _, txn := range []bool{false, true} {
							b := api.Batch{Kind: kind, Producer: producer, Epoch: epoch, Seq: seq, InTxn: txn, Records: list}
							if e := batch.Check(b); e != checked(b) {
								t.Fatalf("Check(%v): %d, not %d", brief(b), e, checked(b))
							}
						}
					}
				}
			}
		}
	}
}

func TestLen(t *testing.T) {
	for _, c := range []struct {
		b api.Batch
		n int
	}{
		{api.Batch{}, 0},
		{plain(1, 0, 0, false, nil), 0},
		{plain(1, 0, 0, false, []api.Record{}), 0},
		{plain(1, 0, 0, false, records(1)), 1},
		{plain(-1, 0, 0, false, records(64)), 64},
		{plain(1, 0, 0, false, records(65)), 65},
		{marker(api.Commit, 1, 0), 1},
		{marker(api.Abort, 1, 0), 1},
		{api.Batch{Kind: api.Commit, Records: records(3)}, 1},
		{api.Batch{Kind: api.Abort, Producer: -9}, 1},
		{api.Batch{Kind: 4, Records: records(3)}, 3},
		{api.Batch{Kind: math.MinInt}, 0},
	} {
		if n := batch.Len(c.b); n != c.n {
			t.Errorf("Len(%v): %d, not %d", brief(c.b), n, c.n)
		}
	}
}

// P203

// written tells a batch by the words of P203, whatever it says.
func written(kind, flags, producer, epoch, seq, count int, list ...api.Record) []byte {
	x := []byte{byte(kind), byte(flags)}
	x = append(x, binary.LittleEndian.AppendUint64(nil, uint64(producer))[:6]...)
	x = binary.LittleEndian.AppendUint32(x, uint32(epoch))
	x = binary.LittleEndian.AppendUint32(x, uint32(seq))
	x = binary.LittleEndian.AppendUint16(x, uint16(count))
	for _, r := range list {
		dead := byte(0)
		if r.Dead {
			dead = 1
		}
		x = append(x, dead)
		x = binary.LittleEndian.AppendUint16(x, uint16(len(r.Key)))
		x = append(x, r.Key...)
		x = binary.LittleEndian.AppendUint16(x, uint16(len(r.Value)))
		x = append(x, r.Value...)
	}
	return x
}

func TestEncodeByteByByte(t *testing.T) {
	for _, c := range []struct {
		b api.Batch
		x string
	}{
		{plain(-1, 0, 0, false, one(api.Record{Key: "k", Value: "v"})),
			"\x01\x00" + strings.Repeat("\x00", 14) + "\x01\x00" + "\x00\x01\x00k\x01\x00v"},
		{plain(0, 0, 0, false, one(api.Record{})),
			"\x01\x01" + strings.Repeat("\x00", 14) + "\x01\x00" + "\x00\x00\x00\x00\x00"},
		{plain(0x060504030201, 0x0D0C0B0A, 0x14131211, true, []api.Record{{Key: "ab", Dead: true}, {Value: "c"}}),
			"\x01\x03" + "\x01\x02\x03\x04\x05\x06" + "\x0a\x0b\x0c\x0d" + "\x11\x12\x13\x14" + "\x02\x00" + "\x01\x02\x00ab\x00\x00" + "\x00\x00\x00\x01\x00c"},
		{marker(api.Commit, 258, 3),
			"\x02\x01" + "\x02\x01\x00\x00\x00\x00" + "\x03\x00\x00\x00" + "\x00\x00\x00\x00" + "\x00\x00"},
		{marker(api.Abort, api.MaxNumber-1, top),
			"\x03\x01" + "\xff\xff\xff\xff\xff\xff" + "\xff\xff\xff\x7f" + "\x00\x00\x00\x00" + "\x00\x00"},
	} {
		if x, e := batch.Encode(c.b); e != api.OK || string(x) != c.x {
			t.Errorf("Encode(%v): % x %d, not % x", c.b, x, e, c.x)
		}
	}
}

func TestEncodeAtTheEdges(t *testing.T) {
	for _, b := range good() {
		flags, producer := 1, b.Producer
		if b.Producer == -1 {
			flags, producer = 0, 0
		}
		if b.InTxn {
			flags += 2
		}
		want := written(b.Kind, flags, producer, b.Epoch, b.Seq, len(b.Records), b.Records...)
		if x := mustEncode(t, b); !bytes.Equal(x, want) {
			t.Errorf("Encode(%v): % x, not % x", brief(b), x, want)
		}
	}
	if x := mustEncode(t, plain(-1, 0, 0, false, filling(api.MaxBytes))); len(x) != api.MaxBytes {
		t.Errorf("%d bytes, not MaxBytes", len(x))
	}
}

func TestEncodeAnswersChecksError(t *testing.T) {
	for _, c := range []struct {
		b api.Batch
		e api.Errno
	}{
		{api.Batch{}, api.ErrArg},
		{plain(-2, 0, -1, false, nil), api.ErrArg},
		{marker(api.Commit, -1, 0), api.ErrArg},
		{plain(1, 0, -1, false, records(65)), api.ErrSize},
		{plain(1, 0, api.MaxSeq, false, records(1)), api.ErrOver},
		{plain(1, 0, -1, false, filling(api.MaxBytes+1)), api.ErrOver},
		{plain(1, 0, 0, false, filling(api.MaxBytes+1)), api.ErrSize},
	} {
		if x, e := batch.Encode(c.b); len(x) != 0 || e != c.e {
			t.Errorf("Encode(%v): %d bytes, %d, not %d", brief(c.b), len(x), e, c.e)
		}
	}
}

// P204

func checkRefused(t *testing.T, name string, x []byte, e api.Errno) {
	t.Helper()
	b, got := batch.Decode(x)
	if got != e || !same(b, api.Batch{}) {
		t.Errorf("%s: %v %d, not %d", name, brief(b), got, e)
	}
}

func TestDecodeOfBytesThatAreMissing(t *testing.T) {
	rec := api.Record{Key: "key", Value: "value"}
	whole := written(1, 3, 7, 8, 9, 2, rec, rec)
	for name, x := range map[string][]byte{
		"nil":                                     nil,
		"empty":                                   {},
		"Kind alone":                              whole[:1],
		"within the Producer":                     whole[:5],
		"within the Epoch":                        whole[:10],
		"within the Seq":                          whole[:15],
		"within the count":                        whole[:17],
		"behind the count":                        whole[:18],
		"within the Key's length":                 whole[:20],
		"within the Key":                          whole[:22],
		"within the Value's length":               whole[:25],
		"within the Value":                        whole[:30],
		"between two Records":                     whole[:31],
		"within the second Record":                whole[:40],
		"three Records told":                      written(1, 1, 0, 0, 0, 3, rec, rec),
		"65535 Records told":                      written(1, 1, 0, 0, 0, 65535, records(64)...),
		"a Key longer than the rest":              append(written(1, 1, 0, 0, 0, 1), 0, 255, 255, 'x'),
		"a wrong Kind, and missing":               written(9, 1, 0, 0, 0, 1),
		"wrong flags, and missing":                written(1, 255, 0, 0, 0, 1),
		"a Producer without its flag":             written(1, 0, 7, 0, 0, 1),
		"a wrong Epoch, and missing":              written(1, 1, 7, 1<<31, 0, 1),
		"a wrong Seq, and missing":                written(1, 1, 7, 0, 1<<31, 1),
		"a marker with Records, missing":          written(2, 1, 7, 0, 0, 2, rec),
		"100 Records, the last missing":           written(1, 1, 7, 0, 0, 100, records(99)...),
		"a wrong Dead byte, and missing":          append(written(1, 1, 7, 0, 0, 1), 2, 0, 0, 0),
		"a long Key, and missing":                 append(written(1, 1, 7, 0, 0, 2, api.Record{Key: letters(1001)}), 0),
		"more than MaxBytes, and missing":         written(1, 1, 7, 0, 0, 16, greatRecords(15)...),
		"Dead with a Value, and a missing Record": written(1, 1, 7, 0, 0, 2, api.Record{Value: "v", Dead: true}),
	} {
		checkRefused(t, name, x, api.ErrEnd)
	}
}

// greatRecords are n Records that are as great as may be.
func greatRecords(n int) []api.Record {
	return slices.Repeat(one(api.Record{Key: letters(1000), Value: letters(4000)}), n)
}

func TestDecodeOfBytesThatNoBatchHas(t *testing.T) {
	rec := api.Record{Key: "k", Value: "v"}
	dead := written(1, 1, 0, 0, 0, 1, rec)
	dead[18] = 2
	deader := written(1, 1, 0, 0, 0, 1, api.Record{})
	deader[18] = 255
	for name, x := range map[string][]byte{
		"Kind 0":                        written(0, 1, 0, 0, 0, 1, rec),
		"Kind 4":                        written(4, 1, 0, 0, 0, 1, rec),
		"Kind 4 without Records":        written(4, 1, 0, 0, 0, 0),
		"Kind 255":                      written(255, 1, 0, 0, 0, 1, rec),
		"flag 4":                        written(1, 4, 0, 0, 0, 1, rec),
		"flags 5":                       written(1, 5, 0, 0, 0, 1, rec),
		"flags 129":                     written(1, 129, 0, 0, 0, 1, rec),
		"flags 255":                     written(1, 255, 0, 0, 0, 1, rec),
		"InTxn of nobody":               written(1, 2, 0, 0, 0, 1, rec),
		"nobody with a Producer":        written(1, 0, 1, 0, 0, 1, rec),
		"nobody with a high Producer":   written(1, 0, 1<<47, 0, 0, 1, rec),
		"nobody with an Epoch":          written(1, 0, 0, 1, 0, 1, rec),
		"nobody with a Seq":             written(1, 0, 0, 0, 1, 1, rec),
		"Epoch 2^31":                    written(1, 1, 0, 1<<31, 0, 1, rec),
		"Epoch 2^32 - 1":                written(1, 1, 0, 1<<32-1, 0, 1, rec),
		"Seq MaxSeq":                    written(1, 1, 0, 0, 1<<31, 1, rec),
		"Seq 2^32 - 1":                  written(1, 1, 0, 0, 1<<32-1, 1, rec),
		"Seq and Len above MaxSeq":      written(1, 1, 0, 0, 1<<31-1, 2, rec, rec),
		"no Records":                    written(1, 1, 0, 0, 0, 0),
		"65 Records":                    written(1, 1, 0, 0, 0, 65, records(65)...),
		"65535 Records":                 written(1, 1, 0, 0, 0, 65535, slices.Repeat(records(1), 65535)...),
		"Key of 1001":                   written(1, 1, 0, 0, 0, 1, api.Record{Key: letters(1001)}),
		"Value of 4001":                 written(1, 1, 0, 0, 0, 1, api.Record{Value: letters(4001)}),
		"Dead with a Value":             written(1, 1, 0, 0, 0, 1, api.Record{Value: "v", Dead: true}),
		"Dead byte 2":                   dead,
		"Dead byte 255":                 deader,
		"one byte more than MaxBytes":   written(1, 1, 0, 0, 0, 14, filling(api.MaxBytes+1)...),
		"Commit with a Record":          written(2, 1, 0, 0, 0, 1, rec),
		"Commit of nobody":              written(2, 0, 0, 0, 0, 0),
		"Abort InTxn":                   written(3, 3, 0, 0, 0, 0),
		"Abort with a Seq":              written(3, 1, 0, 0, 1, 0),
		"Abort with Epoch 2^31":         written(3, 1, 0, 1<<31, 0, 0),
		"a byte behind a batch":         append(written(1, 1, 0, 0, 0, 1, rec), 0),
		"a byte behind a marker":        append(written(2, 1, 0, 0, 0, 0), 0),
		"a batch twice":                 bytes.Repeat(written(1, 1, 0, 0, 0, 1, rec), 2),
		"more Records than are told":    written(1, 1, 0, 0, 0, 1, rec, rec),
		"a Kind that is none, and more": append(written(9, 1, 0, 0, 0, 0), 1, 2, 3),
	} {
		checkRefused(t, name, x, api.ErrForm)
	}
}

// decoded does what P204 says, part by part, without Encode.
func decoded(x []byte) (b api.Batch, e api.Errno) {
	rest, missing := x, false
	take := func(n int) []byte {
		if missing || n > len(rest) {
			missing = true
			return nil
		}
		part := rest[:n]
		rest = rest[n:]
		return part
	}
	number := func(size int) (n int) {
		for i, one := range take(size) {
			n += int(one) << (8 * i)
		}
		return n
	}
	b.Kind = number(1)
	flags := number(1)
	b.Producer, b.Epoch, b.Seq = number(6), number(4), number(4)
	form := flags == 0 && b.Producer == 0 || flags == 1 || flags == 3
	if flags == 0 {
		b.Producer = -1
	}
	b.InTxn = flags == 3
	for range number(2) {
		dead := number(1)
		form = form && dead <= 1
		key := string(take(number(2)))
		value := string(take(number(2)))
		b.Records = append(b.Records, api.Record{Key: key, Value: value, Dead: dead == 1})
		if missing {
			break
		}
	}
	switch {
	case missing:
		return api.Batch{}, api.ErrEnd
	case !form || len(rest) > 0 || checked(b) != api.OK:
		return api.Batch{}, api.ErrForm
	}
	return b, api.OK
}

func TestDecodeOfBytesThatWereChanged(t *testing.T) {
	r := rand.New(rand.NewPCG(2, 4))
	var wholes [][]byte
	for _, b := range good() {
		if x := mustEncode(t, b); len(x) < 1000 {
			wholes = append(wholes, x)
		}
	}
	seen := map[api.Errno]int{}
	for range 60000 {
		x := bytes.Clone(wholes[r.IntN(len(wholes))])
		for range r.IntN(3) {
			x[r.IntN(min(len(x), 24))] = byte(r.IntN(6))
		}
		for range r.IntN(2) {
			x[r.IntN(len(x))] = byte(r.Uint32())
		}
		switch r.IntN(4) {
		case 0:
			x = x[:r.IntN(len(x)+1)]
		case 1:
			x = append(x, make([]byte, r.IntN(9))...)
		}
		b, e := batch.Decode(x)
		want, wantE := decoded(x)
		if e != wantE || !same(b, want) {
			t.Fatalf("Decode(% x): %v %d, not %v %d", x, b, e, want, wantE)
		}
		seen[e]++
	}
	if len(seen) != 3 {
		t.Errorf("not every answer was seen: %v", seen)
	}
}

// P205

func someBatch(r *rand.Rand) api.Batch {
	if r.IntN(4) == 0 {
		return marker(api.Commit+r.IntN(2), r.IntN(api.MaxNumber), r.IntN(top+1))
	}
	list := make([]api.Record, 1+r.IntN(api.MaxBatch))
	for i := range list {
		text := make([]byte, r.IntN(40))
		for j := range text {
			text[j] = byte(r.Uint32())
		}
		cut := r.IntN(len(text) + 1)
		list[i] = api.Record{Key: string(text[:cut]), Value: string(text[cut:])}
		if r.IntN(3) == 0 {
			list[i] = api.Record{Key: string(text), Dead: true}
		}
	}
	if r.IntN(3) == 0 {
		return plain(-1, 0, 0, false, list)
	}
	return plain(r.IntN(api.MaxNumber), r.IntN(top+1), r.IntN(api.MaxSeq-len(list)+1), r.IntN(2) == 0, list)
}

func checkThereAndBack(t *testing.T, b api.Batch) {
	t.Helper()
	x := mustEncode(t, b)
	back, e := batch.Decode(x)
	if e != api.OK || !same(back, b) {
		t.Errorf("Decode of Encode(%v): %v %d", brief(b), brief(back), e)
		return
	}
	if again := mustEncode(t, back); !bytes.Equal(again, x) {
		t.Errorf("Encode of Decode of %v: other bytes", brief(b))
	}
}

func TestThereAndBack(t *testing.T) {
	for _, b := range good() {
		checkThereAndBack(t, b)
	}
	r := rand.New(rand.NewPCG(3, 5))
	for range 2000 {
		checkThereAndBack(t, someBatch(r))
	}
}

// P206

func TestWhole(t *testing.T) {
	for _, b := range good() {
		x := mustEncode(t, b)
		checkRefused(t, "one byte less", x[:len(x)-1], api.ErrEnd)
		for _, more := range []string{"\x00", "\x01", "\xff", "\x00\x00\x00\x00\x00", letters(70000)} {
			checkRefused(t, "bytes behind", append(bytes.Clone(x), more...), api.ErrForm)
		}
		if len(x) > 1000 {
			continue
		}
		for n := range x {
			checkRefused(t, "cut off", x[:n], api.ErrEnd)
		}
	}
}

// P201

func TestNothingHandedInIsChangedOrKept(t *testing.T) {
	behind := api.Record{Key: "behind"}
	list := append(records(3), behind)
	b := plain(1, 2, 3, true, list[:3])
	before := slices.Clone(list)
	x := mustEncode(t, b)
	other := mustEncode(t, b)
	if !slices.Equal(list, before) {
		t.Error("Encode changed the Records")
	}
	room := append(bytes.Clone(x), 77, 77)
	back, _ := batch.Decode(room[:len(x)])
	if !bytes.Equal(room[:len(x)], x) || room[len(x)] != 77 || room[len(x)+1] != 77 {
		t.Error("Decode changed its bytes")
	}
	clear(room)
	list[0].Key = "changed"
	if !slices.Equal(back.Records, before[:3]) {
		t.Error("Decode's answer shares memory with its bytes")
	}
	clear(x[:cap(x)])
	if !bytes.Equal(other, mustEncode(t, back)) {
		t.Error("two answers of Encode share memory")
	}
	twin, _ := batch.Decode(other)
	clear(back.Records[:cap(back.Records)])
	if !slices.Equal(twin.Records, before[:3]) {
		t.Error("two answers of Decode share memory")
	}
}
