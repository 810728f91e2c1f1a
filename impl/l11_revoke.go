package impl

import "slices"

const MaxRevoked = 40

type Revoked struct {
	Serial int
	At     int
}

// revocations is a list with a directory of its Serials.
type revocations struct {
	directory[int]
	list []Revoked
}

func AreRevoked(l []Revoked) bool {
	last := 0
	for _, x := range l {
		if !InRange(x.Serial, last+1, mostSerial) || !IsTime(x.At) {
			return false
		}
		last = x.Serial
	}
	return len(l) <= MaxRevoked
}

func AddRevoked(l []Revoked, serial int, at int) ([]Revoked, bool) {
	if AreRevoked(l) && IsTime(at) {
		added := revocationsOf(l).with(Revoked{Serial: serial, At: at})
		if AreRevoked(added) {
			return added, true
		}
	}
	return copyOf(l), false
}

func RevokedAt(l []Revoked, serial int) int {
	return revocationsOf(l).timeOf(serial)
}

func IsRevoked(l []Revoked, serial int, now int) bool {
	return revocationsOf(l).isRevoked(serial, now)
}

func MergeRevoked(a []Revoked, b []Revoked) []Revoked {
	merged := copyOf(a)
	for _, x := range b {
		merged, _ = AddRevoked(merged, x.Serial, x.At)
	}
	return merged
}

func KnowsMore(a []Revoked, b []Revoked) bool {
	known := revocationsOf(a)
	for _, x := range b {
		if !known.isRevoked(x.Serial, x.At) {
			return false
		}
	}
	return true
}

func revocationsOf(l []Revoked) revocations {
	r := revocations{directory: directory[int]{}, list: l}
	for i, x := range l {
		r.enter(x.Serial, i)
	}
	return r
}

func (r revocations) timeOf(serial int) int {
	place := r.lookUp(serial)
	if place == noPlace {
		return noTime
	}
	return r.list[place].At
}

func (r revocations) isRevoked(serial int, now int) bool {
	return areInOrder(0, r.timeOf(serial), now)
}

// with relies on the list being in order.
func (r revocations) with(x Revoked) []Revoked {
	list := copyOf(r.list)
	place := r.lookUp(x.Serial)
	if place == noPlace {
		return slices.Insert(list, placeOf(list, x, Revoked.isBefore), x)
	}
	list[place].At = Min(list[place].At, x.At)
	return list
}

func (x Revoked) isBefore(other Revoked) bool {
	return x.Serial < other.Serial
}
