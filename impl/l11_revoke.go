package impl

const MaxRevoked = 40

type Revoked struct {
	Serial int
	At     int
}

func AreRevoked(l []Revoked) bool {
	return false
}

func AddRevoked(l []Revoked, serial int, at int) ([]Revoked, bool) {
	return []Revoked{}, false
}

func RevokedAt(l []Revoked, serial int) int {
	return 0
}

func IsRevoked(l []Revoked, serial int, now int) bool {
	return false
}

func MergeRevoked(a []Revoked, b []Revoked) []Revoked {
	return []Revoked{}
}

func KnowsMore(a []Revoked, b []Revoked) bool {
	return false
}
