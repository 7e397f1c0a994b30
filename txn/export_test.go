package txn

// SetEpoch makes epoch a producer's: no test can ask as often as it takes to come to the last ones.
func SetEpoch(b *Book, producer, epoch int) { b.producers[producer].epoch = epoch }
