package assign

import "slices"

// step tells which partitions a member gets beside those that it has.
type step func(now Share) []int

// deal takes each step with all members, by rising names, ahead of the next step.
func deal(members []string, steps ...step) []Share {
	var shares []Share
	for _, name := range rising(members) {
		shares = append(shares, Share{Member: name})
	}
	for _, more := range steps {
		for i, x := range shares {
			shares[i].Parts = append(x.Parts, more(x)...)
		}
	}
	for _, x := range shares {
		slices.Sort(x.Parts)
	}
	return shares
}

// split tells how many partitions each member has at least, and how many are left over then.
func split(parts, members int) (base, rest int) {
	if members == 0 {
		return 0, 0
	}
	return parts / members, parts % members
}

// whoHad tells what each member had. A deck sees to it that nobody had what a member ahead of it had, nor what is no partition, nor anything twice.
func whoHad(old []Share, members []string, parts int) map[string][]int {
	listed := map[string][]int{}
	for _, x := range slices.Backward(old) {
		listed[x.Member] = x.Parts // of several Shares of one name the first one comes last, and stays
	}
	had, nobodys := map[string][]int{}, partitions(parts)
	for _, name := range rising(members) {
		had[name] = nobodys.pick(listed[name])
	}
	return had
}
