package tests

import (
	"math"
	"slices"
	"testing"

	"loop.example/g00594/impl"
)

const (
	maxRole  = 5
	maxPairs = 10
)

// includes is the list of these pairs of a Greater and a Lesser.
func includes(pairs ...[2]int) []impl.Includes {
	l := []impl.Includes{}
	for _, p := range pairs {
		l = append(l, impl.Includes{Greater: p[0], Lesser: p[1]})
	}
	return l
}

// chain holds a pair from each of these roles to the next one.
func chain(roles ...int) []impl.Includes {
	l := []impl.Includes{}
	for i := 1; i < len(roles); i++ {
		l = append(l, impl.Includes{Greater: roles[i-1], Lesser: roles[i]})
	}
	return l
}

// ring is a chain that comes back to its first role.
func ring(roles ...int) []impl.Includes {
	return chain(append(slices.Clone(roles), roles[0])...)
}

// allDown holds, for any two of these roles, the pair from the one that stands first.
func allDown(roles ...int) []impl.Includes {
	l := []impl.Includes{}
	for i, greater := range roles {
		for _, lesser := range roles[i+1:] {
			l = append(l, impl.Includes{Greater: greater, Lesser: lesser})
		}
	}
	return l
}

// chosen holds the elements of l whose places are in the set.
func chosen[E any](l []E, set int) []E {
	kept := []E{}
	for i, x := range l {
		if set>>i&1 == 1 {
			kept = append(kept, x)
		}
	}
	return kept
}

// inOrders holds the elements of l in all orders.
func inOrders[E any](l []E) [][]E {
	var all [][]E
	for _, order := range orders(countedFrom(0, len(l))) {
		var ordered []E
		for _, i := range order {
			ordered = append(ordered, l[i])
		}
		all = append(all, ordered)
	}
	return all
}

func isOneOfTheRoles(role int) bool {
	return role >= 0 && role <= maxRole
}

// noRoles holds integers that are no roles, also those that are like roles in their last bits.
func noRoles() []int {
	return []int{-1, -2, -maxRole, -10, 6, 7, 8, 10, 11, 64, 256, 1 << 32, 1<<32 + 3, math.MinInt, math.MinInt + 1, math.MinInt + 3, math.MaxInt, math.MaxInt - 1}
}

// rolesAround holds all roles and what is around them.
func rolesAround() []int {
	return append(countedFrom(0, maxRole+1), noRoles()...)
}

// routes is a second account of pairs: whether the role of a row reaches that of a column by one or more of them.
type routes [maxRole + 1][maxRole + 1]bool

func routesOf(l []impl.Includes) routes {
	var r routes
	for _, p := range l {
		if isOneOfTheRoles(p.Greater) && isOneOfTheRoles(p.Lesser) {
			r[p.Greater][p.Lesser] = true
		}
	}
	for via := range r {
		for from := range r {
			for to := range r {
				r[from][to] = r[from][to] || r[from][via] && r[via][to]
			}
		}
	}
	return r
}

// under holds these roles, as far as they are roles, and all that one of them reaches.
func (r routes) under(roles ...int) []int {
	list := []int{}
	for to := range r {
		isUnder := slices.Contains(roles, to)
		for _, from := range roles {
			isUnder = isUnder || isOneOfTheRoles(from) && r[from][to]
		}
		if isUnder {
			list = append(list, to)
		}
	}
	return list
}

func mayBePairs(l []impl.Includes) bool {
	for _, p := range l {
		if !isOneOfTheRoles(p.Greater) || !isOneOfTheRoles(p.Lesser) {
			return false
		}
	}
	for role, row := range routesOf(l) {
		if row[role] {
			return false
		}
	}
	return len(l) <= maxPairs
}

// rolesOnTop takes from all roles what is Lesser of a pair.
func rolesOnTop(l []impl.Includes) []int {
	top := countedFrom(0, maxRole+1)
	for _, p := range l {
		top = slices.DeleteFunc(top, func(role int) bool { return role == p.Lesser })
	}
	return top
}

// somePairs holds valid lists.
func somePairs() [][]impl.Includes {
	return [][]impl.Includes{
		nil,
		{},
		chain(0, 5),
		chain(5, 0),
		chain(3, 1, 0),
		includes([2]int{3, 1}, [2]int{1, 0}, [2]int{4, 3}),
		includes([2]int{5, 2}, [2]int{4, 2}, [2]int{3, 2}),
		includes([2]int{2, 5}, [2]int{2, 4}, [2]int{2, 3}),
		includes([2]int{5, 3}, [2]int{5, 4}, [2]int{3, 1}, [2]int{4, 1}),
		includes([2]int{1, 2}, [2]int{3, 4}, [2]int{1, 2}),
		chain(5, 4, 3, 2, 1, 0),
		chain(0, 1, 2, 3, 4, 5),
		chain(2, 4, 0, 5, 1, 3),
		allDown(5, 4, 3, 2, 1),
		allDown(0, 3, 1, 5, 4),
		allDown(5, 4, 3, 2, 1, 0)[:maxPairs],
		slices.Repeat(chain(5, 0), maxPairs),
		slices.Repeat(chain(4, 2, 1), maxPairs/2),
	}
}

// noPairs holds lists that are not valid, most of them for one reason only.
func noPairs() [][]impl.Includes {
	lists := [][]impl.Includes{
		make([]impl.Includes, maxPairs+1),
		{{}},
		ring(0, 5),
		ring(3, 1, 0),
		ring(5, 4, 3, 2, 1, 0),
		slices.Concat(chain(0, 4), chain(3, 1, 0), chain(4, 3)),
		slices.Concat(chain(5, 4), ring(1, 2), chain(4, 3)),
		append(allDown(5, 4, 3, 2)[:6:6], chain(2, 5)...),
		allDown(5, 4, 3, 2, 1, 0)[:maxPairs+1],
		allDown(5, 4, 3, 2, 1, 0),
		slices.Repeat(chain(5, 0), maxPairs+1),
		slices.Repeat(chain(5, 0), 100),
		slices.Repeat(chain(4, 2, 1), maxPairs),
		append(allDown(5, 4, 3, 2, 1), impl.Includes{Greater: 5, Lesser: 4}),
	}
	for role := range maxRole + 1 {
		lists = append(lists, ring(role), slices.Concat(chain(5, 3, 1), ring(role)), slices.Concat(ring(role), chain(5, 3, 1)))
	}
	for _, role := range noRoles() {
		lists = append(lists,
			chain(role, 2), chain(2, role), chain(role, role), chain(3, role, 1),
			slices.Concat(chain(3, 1, 0), chain(role, 2)), slices.Concat(chain(2, role), chain(3, 1, 0)), slices.Concat(chain(3, 1), chain(4, role), chain(1, 0)))
	}
	return lists
}

func checkPairs(t *testing.T, l []impl.Includes, want bool) {
	t.Helper()
	if got := impl.ArePairs(l); got != want {
		t.Errorf("ArePairs(%v) = %v", l, got)
	}
}

func checkUnder(t *testing.T, l []impl.Includes, role int, want ...int) {
	t.Helper()
	if got := impl.RolesUnder(l, role); !slices.Equal(got, want) {
		t.Errorf("RolesUnder(%v, %d) = %v, want %v", l, role, got, want)
	}
}

func checkTop(t *testing.T, l []impl.Includes, want ...int) {
	t.Helper()
	if got := impl.TopRoles(l); !slices.Equal(got, want) {
		t.Errorf("TopRoles(%v) = %v, want %v", l, got, want)
	}
}

// checkAgainstRoutes asks all that pairs alone can answer.
func checkAgainstRoutes(t *testing.T, l []impl.Includes) {
	t.Helper()
	checkPairs(t, l, mayBePairs(l))
	checkTop(t, l, rolesOnTop(l)...)
	r := routesOf(l)
	for role := -1; role <= maxRole+1; role++ {
		checkUnder(t, l, role, r.under(role)...)
	}
}

func TestMaxPairs(t *testing.T) {
	if impl.MaxPairs != maxPairs || impl.MaxRole != maxRole {
		t.Error(impl.MaxPairs, impl.MaxRole)
	}
}

func TestArePairs(t *testing.T) {
	for _, l := range somePairs() {
		checkPairs(t, l, true)
	}
	for _, l := range noPairs() {
		checkPairs(t, l, false)
	}
}

func TestPairsOfEveryNumber(t *testing.T) {
	down := allDown(5, 4, 3, 2, 1, 0)
	for n := range len(down) + 1 {
		checkPairs(t, down[:n], n <= maxPairs)
		checkPairs(t, slices.Clone(down[:n]), n <= maxPairs)
		checkPairs(t, down[len(down)-n:], n <= maxPairs)
	}
	for n := range 100 {
		checkPairs(t, slices.Repeat(chain(0, 5), n), n <= maxPairs)
		checkPairs(t, slices.Repeat(chain(5, 5), n), n == 0)
		checkPairs(t, slices.Repeat(chain(6, 5), n), n == 0)
	}
}

func TestPairsOfEveryTwoRoles(t *testing.T) {
	for _, greater := range append(rolesAround(), atTheEnds()...) {
		for _, lesser := range append(rolesAround(), atTheEnds()...) {
			l := chain(greater, lesser)
			checkPairs(t, l, isOneOfTheRoles(greater) && isOneOfTheRoles(lesser) && greater != lesser)
			for role := -1; role <= maxRole+1; role++ {
				checkUnder(t, l, role, routesOf(l).under(role)...)
			}
			checkTop(t, l, rolesOnTop(l)...)
		}
	}
}

// Any pair is put at every place of a list, where it may close a ring, be there already, or be one too many.
func TestPairsWithOnePairMore(t *testing.T) {
	for _, l := range somePairs() {
		for place := range len(l) + 1 {
			for greater := -1; greater <= maxRole+1; greater++ {
				for lesser := -1; lesser <= maxRole+1; lesser++ {
					checkAgainstRoutes(t, with(l, place, impl.Includes{Greater: greater, Lesser: lesser}))
				}
			}
		}
	}
}

// A ring of up to six roles, with its pairs in every order, is no longer one when any of its pairs is left out.
func TestRingsWithPairsInEveryOrder(t *testing.T) {
	for _, roles := range [][]int{{0}, {3}, {5}, {0, 5}, {3, 2}, {1, 4}, {0, 1, 2}, {5, 1, 3}, {2, 0, 5}, {0, 1, 2, 3}, {4, 0, 5, 2}, {1, 5, 0, 4, 2}, {5, 4, 3, 2, 1, 0}, {2, 5, 0, 3, 1, 4}} {
		for _, l := range inOrders(ring(roles...)) {
			checkPairs(t, l, false)
			for role := range maxRole + 1 {
				if slices.Contains(roles, role) {
					checkUnder(t, l, role, slices.Sorted(slices.Values(roles))...)
				} else {
					checkUnder(t, l, role, role)
				}
			}
			for place := range l {
				checkPairs(t, without(l, place), true)
			}
		}
	}
}

// Pairs that are in order stand before, behind and between those of a ring, and lead to it, away from it, or past it.
func TestRingsBesidePairsInOrder(t *testing.T) {
	for _, roles := range [][]int{{2}, {1, 2}, {2, 4}, {1, 2, 3}, {3, 2, 4}, {1, 4, 2, 3}} {
		closed := ring(roles...)
		for _, beside := range [][]impl.Includes{chain(0, 5), chain(5, 0), chain(5, 2), chain(2, 0), chain(5, 2, 0), chain(0, 2, 5), includes([2]int{5, 2}, [2]int{0, 2}), slices.Repeat(chain(5, 0), 4)} {
			between := slices.Clone(closed)
			for i, p := range beside {
				between = with(between, min(2*i+1, len(between)), p)
			}
			for _, l := range [][]impl.Includes{slices.Concat(closed, beside), slices.Concat(beside, closed), between} {
				checkAgainstRoutes(t, l)
				checkPairs(t, l, false)
			}
		}
	}
}

func TestRingsOfRolesThatAreNone(t *testing.T) {
	for _, role := range noRoles() {
		for _, l := range [][]impl.Includes{ring(role), ring(role, 2), ring(2, role), ring(1, role, 2), ring(1, 2, role)} {
			checkPairs(t, l, false)
			checkAgainstRoutes(t, l)
		}
	}
}

func TestTheLongestChain(t *testing.T) {
	for _, roles := range [][]int{{5, 4, 3, 2, 1, 0}, {0, 1, 2, 3, 4, 5}, {3, 0, 5, 1, 4, 2}} {
		for _, l := range inOrders(chain(roles...)) {
			checkPairs(t, l, true)
			checkTop(t, l, roles[0])
			for i, role := range roles {
				checkUnder(t, l, role, slices.Sorted(slices.Values(roles[i:]))...)
			}
		}
	}
}

// Every set of pairs between four roles, up to all sixteen of them.
func TestEverySetOfPairsOfFourRoles(t *testing.T) {
	for _, roles := range [][]int{{0, 1, 2, 3}, {5, 0, 4, 2}} {
		var all []impl.Includes
		for _, greater := range roles {
			for _, lesser := range roles {
				all = append(all, impl.Includes{Greater: greater, Lesser: lesser})
			}
		}
		for set := range 1 << len(all) {
			checkAgainstRoutes(t, chosen(all, set))
		}
	}
}

// No role reaches itself by pairs that all lead down in one order, so that only their number counts.
func TestEverySetOfPairsInOneOrderOfTheRoles(t *testing.T) {
	for _, roles := range [][]int{{0, 1, 2, 3, 4, 5}, {4, 1, 5, 0, 3, 2}} {
		all := allDown(roles...)
		for set := range 1 << len(all) {
			l := chosen(all, set)
			checkPairs(t, l, len(l) <= maxPairs)
			checkAgainstRoutes(t, l)
		}
	}
}

func TestRolesUnder(t *testing.T) {
	l := includes([2]int{3, 1}, [2]int{1, 0}, [2]int{4, 3})
	for role, want := range [][]int{{0}, {0, 1}, {2}, {0, 1, 3}, {0, 1, 3, 4}, {5}} {
		checkUnder(t, l, role, want...)
	}
	twoWays := includes([2]int{5, 3}, [2]int{5, 4}, [2]int{3, 1}, [2]int{4, 1}, [2]int{1, 0})
	for role, want := range [][]int{{0}, {0, 1}, {2}, {0, 1, 3}, {0, 1, 4}, {0, 1, 3, 4, 5}} {
		checkUnder(t, twoWays, role, want...)
	}
	// From the lesser number to the greater one, too.
	up := includes([2]int{0, 4}, [2]int{4, 2}, [2]int{1, 5})
	for role, want := range [][]int{{0, 2, 4}, {1, 5}, {2}, {3}, {2, 4}, {5}} {
		checkUnder(t, up, role, want...)
	}
	twice := includes([2]int{2, 1}, [2]int{2, 1}, [2]int{1, 0}, [2]int{2, 1}, [2]int{1, 0})
	for role, want := range [][]int{{0}, {0, 1}, {0, 1, 2}, {3}, {4}, {5}} {
		checkUnder(t, twice, role, want...)
	}
	for role := range maxRole + 1 {
		checkUnder(t, nil, role, role)
		checkUnder(t, []impl.Includes{}, role, role)
		checkUnder(t, ring(role), role, role)
	}
}

func TestRolesUnderWhatIsNoRole(t *testing.T) {
	for _, role := range append(noRoles(), math.MinInt+6, math.MaxInt-5, -6, 1000) {
		for _, l := range append(somePairs(), noPairs()...) {
			checkUnder(t, l, role)
		}
		checkUnder(t, chain(role, 3, 2), role)
		checkUnder(t, chain(5, role, 3), role)
		checkUnder(t, ring(role, 3), role)
	}
}

// Pairs with what is no role are passed over: they are neither a way nor do they end one.
func TestRolesUnderByPairsOfWhatIsNoRole(t *testing.T) {
	l := includes([2]int{4, 3}, [2]int{3, 1}, [2]int{5, 1})
	for _, no := range noRoles() {
		for _, wrong := range [][]impl.Includes{chain(no, 2), chain(4, no), chain(no, no), chain(4, no, 2), chain(no, 4, no), ring(no, 4), ring(1, no, 2)} {
			for place := range len(l) + 1 {
				// The pairs of a chain that lead to it and away from it stand apart, too.
				beside := with(l, place, wrong[0])
				beside = append(beside, wrong[1:]...)
				for role, want := range [][]int{{0}, {1}, {2}, {1, 3}, {1, 3, 4}, {1, 5}} {
					got := routesOf(wrong).under(want...)
					checkUnder(t, beside, role, got...)
				}
			}
		}
		checkUnder(t, chain(3, no, 1), 3, 3)
		checkUnder(t, slices.Concat(chain(3, no), chain(4, 2), chain(no, 1)), 3, 3)
		checkUnder(t, slices.Concat(chain(no, 1), chain(3, 2), chain(3, no), chain(2, 0)), 3, 0, 2, 3)
	}
}

func TestRolesUnderByPairsInEveryOrder(t *testing.T) {
	for _, l := range inOrders(includes([2]int{5, 4}, [2]int{5, 2}, [2]int{4, 1}, [2]int{2, 1}, [2]int{1, 3}, [2]int{4, 2})) {
		for role, want := range [][]int{{0}, {1, 3}, {1, 2, 3}, {3}, {1, 2, 3, 4}, {1, 2, 3, 4, 5}} {
			checkUnder(t, l, role, want...)
		}
		checkTop(t, l, 0, 5)
		checkPairs(t, l, true)
	}
	// Also where there are rings that share a role.
	for _, l := range inOrders(slices.Concat(ring(0, 3), ring(3, 5, 1), chain(1, 4))) {
		for _, role := range []int{0, 1, 3, 5} {
			checkUnder(t, l, role, 0, 1, 3, 4, 5)
		}
		checkUnder(t, l, 4, 4)
		checkUnder(t, l, 2, 2)
		checkTop(t, l, 2)
		checkPairs(t, l, false)
	}
}

// No number of pairs is too great for RolesUnder and TopRoles.
func TestRolesUnderByMorePairsThanAreValid(t *testing.T) {
	long := slices.Concat(slices.Repeat(chain(1, 0), 500), chain(4, 2), slices.Repeat(chain(6, 3), 500), chain(5, 4), slices.Repeat(chain(2, 1), 500))
	for role, want := range [][]int{{0}, {0, 1}, {0, 1, 2}, {3}, {0, 1, 2, 4}, {0, 1, 2, 4, 5}} {
		checkUnder(t, long, role, want...)
	}
	checkTop(t, long, 5)
	checkPairs(t, long, false)
	checkAgainstRoutes(t, allDown(5, 4, 3, 2, 1, 0))
	checkAgainstRoutes(t, slices.Concat(allDown(5, 4, 3, 2, 1, 0), allDown(0, 1, 2, 3, 4, 5)))
}

// What is under a role has nothing under it that is not under the role.
func TestRolesUnderRolesUnder(t *testing.T) {
	for _, l := range append(somePairs(), noPairs()...) {
		for role := range maxRole + 1 {
			under := impl.RolesUnder(l, role)
			if !slices.Contains(under, role) {
				t.Errorf("RolesUnder(%v, %d) = %v", l, role, under)
			}
			for _, lesser := range under {
				for _, least := range impl.RolesUnder(l, lesser) {
					if !slices.Contains(under, least) {
						t.Errorf("by %v, %d is under %d, but not under %d", l, least, lesser, role)
					}
				}
			}
		}
	}
}

func TestTopRoles(t *testing.T) {
	for _, c := range []struct {
		l    []impl.Includes
		want []int
	}{
		{nil, []int{0, 1, 2, 3, 4, 5}},
		{[]impl.Includes{}, []int{0, 1, 2, 3, 4, 5}},
		{includes([2]int{3, 1}, [2]int{1, 0}, [2]int{4, 3}), []int{2, 4, 5}},
		{chain(5, 0), []int{1, 2, 3, 4, 5}},
		{chain(0, 5), []int{0, 1, 2, 3, 4}},
		{slices.Repeat(chain(0, 5), 50), []int{0, 1, 2, 3, 4}},
		{chain(5, 4, 3, 2, 1, 0), []int{5}},
		{chain(0, 1, 2, 3, 4, 5), []int{0}},
		{includes([2]int{2, 0}, [2]int{2, 1}, [2]int{2, 3}, [2]int{2, 4}, [2]int{2, 5}), []int{2}},
		{includes([2]int{0, 2}, [2]int{1, 2}, [2]int{3, 2}), []int{0, 1, 3, 4, 5}},
		// A role that reaches itself stands under a role, which may be itself.
		{ring(3), []int{0, 1, 2, 4, 5}},
		{ring(3, 1), []int{0, 2, 4, 5}},
		{ring(0, 1, 2, 3, 4, 5), nil},
		{slices.Concat(ring(0, 1), ring(2, 3), ring(4, 5)), nil},
		{slices.Concat(ring(0), ring(1), ring(2), ring(3), ring(4), ring(5)), nil},
		{append(chain(5, 4, 3, 2, 1, 0), impl.Includes{Greater: 0, Lesser: 5}), nil},
	} {
		checkTop(t, c.l, c.want...)
		slices.Reverse(c.l)
		checkTop(t, c.l, c.want...)
	}
}

// A role is Lesser of a pair also if the Greater is no role; a Lesser that is no role takes none away.
func TestTopRolesByPairsOfWhatIsNoRole(t *testing.T) {
	for _, no := range noRoles() {
		for role := range maxRole + 1 {
			checkTop(t, chain(no, role), without(countedFrom(0, maxRole+1), role)...)
		}
		checkTop(t, chain(3, no), 0, 1, 2, 3, 4, 5)
		checkTop(t, chain(no, no), 0, 1, 2, 3, 4, 5)
		checkTop(t, chain(no, 3, no, 1), 0, 2, 4, 5)
		checkTop(t, includes([2]int{no, 0}, [2]int{no, 1}, [2]int{no, 2}, [2]int{no, 3}, [2]int{no, 4}, [2]int{no, 5}))
		checkTop(t, slices.Concat(chain(no, 3), chain(2, no), chain(5, 4)), 0, 1, 2, 5)
	}
}

// assigned is the fact that person 0 has this role.
func assigned(role, at, until int) impl.Fact {
	return impl.Fact{Kind: 1, Subject: 10, Value: role, Issuer: 1, At: at, Until: until}
}

// rolesStated tells, one fact after the other, which roles facts state for a person.
func rolesStated(s []impl.Fact, person, now, age int) []int {
	var stated []int
	for _, f := range s {
		isOfAPerson := f.Kind == 1 && f.Subject == person && person >= 10 && person <= 19 && isOneOfTheRoles(f.Value)
		isStated := f.Issuer >= 0 && f.Issuer <= 9 && f.At >= 0 && f.At <= now && now <= f.Until && f.Until <= maxTime
		if isOfAPerson && isStated && now-f.At <= age {
			stated = append(stated, f.Value)
		}
	}
	return stated
}

func checkRolesOf(t *testing.T, l []impl.Includes, s []impl.Fact, person, now, age int, want ...int) {
	t.Helper()
	if got := impl.RolesOf(l, s, person, now, age); !slices.Equal(got, want) {
		t.Errorf("RolesOf(%v, %v, %d, %d, %d) = %v, want %v", l, s, person, now, age, got, want)
	}
	for role := -1; role <= maxRole+1; role++ {
		if got := impl.HasRole(l, s, person, role, now, age); got != slices.Contains(want, role) {
			t.Errorf("HasRole(%v, %v, %d, %d, %d, %d) = %v", l, s, person, role, now, age, got)
		}
	}
}

func checkAgainstStated(t *testing.T, l []impl.Includes, s []impl.Fact, person, now, age int) {
	t.Helper()
	checkRolesOf(t, l, s, person, now, age, routesOf(l).under(rolesStated(s, person, now, age)...)...)
}

func TestRolesOf(t *testing.T) {
	l := includes([2]int{3, 1}, [2]int{1, 0}, [2]int{4, 3})
	s := []impl.Fact{assigned(3, 5, 20), assigned(5, 9, 20)}
	for _, c := range []struct {
		now, age int
		want     []int
	}{
		{10, 5, []int{0, 1, 3, 5}},
		{11, 5, []int{5}},
		{14, 5, []int{5}},
		{15, 5, nil},
		{4, 100, nil},
		{5, 100, []int{0, 1, 3}},
		{8, 100, []int{0, 1, 3}},
		{9, 100, []int{0, 1, 3, 5}},
		{20, 100, []int{0, 1, 3, 5}},
		{20, 15, []int{0, 1, 3, 5}},
		{20, 14, []int{5}},
		{20, 10, nil},
		{21, 100, nil},
		{5, 0, []int{0, 1, 3}},
		{6, 0, nil},
		{6, 1, []int{0, 1, 3}},
		{9, 0, []int{5}},
		{9, -1, nil},
		{9, math.MinInt, nil},
		{9, maxTime, []int{0, 1, 3, 5}},
		{9, maxTime + 1, []int{0, 1, 3, 5}},
		{9, math.MaxInt, []int{0, 1, 3, 5}},
		{-1, math.MaxInt, nil},
		{maxTime, math.MaxInt, nil},
		{maxTime + 1, math.MaxInt, nil},
		{math.MinInt, math.MaxInt, nil},
		{math.MaxInt, math.MaxInt, nil},
	} {
		checkRolesOf(t, l, s, 10, c.now, c.age, c.want...)
		checkRolesOf(t, l, s, 11, c.now, c.age)
		for _, empty := range [][]impl.Fact{nil, {}} {
			checkRolesOf(t, l, empty, 10, c.now, c.age)
		}
	}
	checkRolesOf(t, nil, s, 10, 10, 5, 3, 5)
	checkRolesOf(t, []impl.Includes{}, s, 10, 10, 5, 3, 5)
}

// Each pair of times, at their first and last moments, with ages next to how old the fact is.
func TestRolesOfAtEveryTime(t *testing.T) {
	l := chain(4, 2, 0)
	for _, span := range [][2]int{{0, 0}, {0, 3}, {5, 5}, {5, 6}, {5, 20}, {0, maxTime}, {maxTime - 3, maxTime}, {maxTime, maxTime}} {
		s := []impl.Fact{assigned(4, span[0], span[1])}
		for _, now := range timesAround(impl.Cert{From: span[0], Until: span[1]}) {
			for _, age := range append(agesAround(), now-span[0]-1, now-span[0], now-span[0]+1) {
				if span[0] <= now && now <= span[1] && now-span[0] <= age {
					checkRolesOf(t, l, s, 10, now, age, 0, 2, 4)
				} else {
					checkRolesOf(t, l, s, 10, now, age)
				}
			}
		}
	}
}

func TestRolesOfOtherPeople(t *testing.T) {
	l := includes([2]int{5, 4}, [2]int{3, 2})
	var s []impl.Fact
	for person := 10; person <= 19; person++ {
		f := assigned(person%6, 5, 20)
		f.Subject = person
		s = append(s, f)
	}
	for person := -100; person <= 600; person++ {
		if 10 <= person && person <= 19 {
			checkRolesOf(t, l, s, person, 8, 5, routesOf(l).under(person%6)...)
			checkRolesOf(t, l, without(s, person-10), person, 8, 5)
		} else {
			checkRolesOf(t, l, s, person, 8, 5)
		}
	}
	for _, person := range noNames() {
		f := assigned(3, 5, 20)
		f.Subject = person
		checkRolesOf(t, l, append(s, f, f), person, 8, 5)
	}
}

// Facts of other kinds state no role, also if they are about a person, or their Value is a role.
func TestRolesOfFactsOfOtherKinds(t *testing.T) {
	l := chain(3, 2, 1)
	for _, f := range listedClaims() {
		if f.Kind == 1 {
			continue
		}
		checkRolesOf(t, l, []impl.Fact{f}, f.Subject, 150, 100)
		checkRolesOf(t, l, []impl.Fact{f}, f.Value, 150, 100)
		for kind := -2; kind <= 6; kind++ {
			f.Kind = kind
			f.Subject = 10
			for value := -1; value <= 30; value++ {
				f.Value = value
				s := []impl.Fact{f, timed(assigned(5, 0, 0), 100, 200), f}
				checkAgainstStated(t, l, s, 10, 150, 100)
				if kind != 1 {
					checkRolesOf(t, l, s, 10, 150, 100, 5)
				}
			}
		}
	}
}

func TestRolesOfWhatIsNoFact(t *testing.T) {
	l := chain(3, 2, 1)
	for _, f := range noFacts() {
		for now := -1; now <= 21; now++ {
			for _, age := range []int{0, 20, maxTime, math.MaxInt} {
				checkRolesOf(t, l, []impl.Fact{f, f}, f.Subject, now, age)
				checkAgainstStated(t, l, []impl.Fact{f, assigned(3, 4, 15), f}, 10, now, age)
			}
		}
	}
	for _, role := range noRoles() {
		checkRolesOf(t, l, []impl.Fact{assigned(role, 5, 20)}, 10, 8, 5)
		checkRolesOf(t, slices.Concat(chain(role, 3), l), []impl.Fact{assigned(role, 5, 20)}, 10, 8, 5)
		checkRolesOf(t, l, []impl.Fact{assigned(role, 5, 20), assigned(2, 5, 20), assigned(role, 5, 20)}, 10, 8, 5, 1, 2)
	}
}

// Two facts of one role differ in their issuers or times; the role is told once, as long as one of them holds.
func TestRolesOfTwoFactsOfOneRole(t *testing.T) {
	l := chain(4, 1)
	other := assigned(4, 8, 12)
	other.Issuer = 7
	for _, s := range [][]impl.Fact{
		{assigned(4, 5, 10), assigned(4, 8, 12)},
		{assigned(4, 8, 12), assigned(4, 5, 10)},
		{assigned(4, 5, 10), other},
		{other, assigned(4, 5, 10)},
		{assigned(4, 5, 10), other, assigned(4, 5, 10), other},
	} {
		for now := 0; now <= 15; now++ {
			for age := -1; age <= 10; age++ {
				if 5 <= now && now <= min(10, 5+age) || 8 <= now && now <= min(12, 8+age) {
					checkRolesOf(t, l, s, 10, now, age, 1, 4)
				} else {
					checkRolesOf(t, l, s, 10, now, age)
				}
			}
		}
	}
}

// The role under the other one is told once, and remains when the fact of the greater one is past.
func TestRolesOfARoleAndOneUnderIt(t *testing.T) {
	l := chain(5, 3, 2)
	for _, s := range [][]impl.Fact{{assigned(3, 5, 20), assigned(5, 7, 15)}, {assigned(5, 7, 15), assigned(3, 5, 20)}} {
		checkRolesOf(t, l, s, 10, 6, 100, 2, 3)
		checkRolesOf(t, l, s, 10, 7, 100, 2, 3, 5)
		checkRolesOf(t, l, s, 10, 15, 100, 2, 3, 5)
		checkRolesOf(t, l, s, 10, 16, 100, 2, 3)
		checkRolesOf(t, l, s, 10, 10, 4, 2, 3, 5)
		checkRolesOf(t, l, s, 10, 21, 100)
	}
}

// Every set of roles is stated, from the last one to the first one and twice.
func TestRolesOfEverySetOfRoles(t *testing.T) {
	for set := range 1 << (maxRole + 1) {
		stated := chosen(countedFrom(0, maxRole+1), set)
		var s []impl.Fact
		for _, role := range slices.Backward(stated) {
			s = append(s, assigned(role, 3, 9), assigned(role, 2, 8))
		}
		checkRolesOf(t, nil, s, 10, 5, 10, stated...)
		for _, l := range append(somePairs(), noPairs()...) {
			checkRolesOf(t, l, s, 10, 5, 10, routesOf(l).under(stated...)...)
		}
	}
}

func TestRolesOfByPairsThatAreNotValid(t *testing.T) {
	s := []impl.Fact{assigned(3, 5, 20)}
	checkRolesOf(t, ring(3), s, 10, 8, 5, 3)
	checkRolesOf(t, ring(3, 1), s, 10, 8, 5, 1, 3)
	checkRolesOf(t, ring(1, 4, 3), s, 10, 8, 5, 1, 3, 4)
	checkRolesOf(t, ring(1, 4), s, 10, 8, 5, 3)
	checkRolesOf(t, chain(3, 6, 2), s, 10, 8, 5, 3)
	checkRolesOf(t, chain(3, -1, 2), s, 10, 8, 5, 3)
	checkRolesOf(t, slices.Concat(chain(3, 7), chain(3, 2), chain(7, 1)), s, 10, 8, 5, 2, 3)
	checkRolesOf(t, append(slices.Repeat(chain(5, 4), 100), chain(3, 2)...), s, 10, 8, 5, 2, 3)
}

func TestHasRole(t *testing.T) {
	l := includes([2]int{3, 1}, [2]int{1, 0}, [2]int{4, 3}, [2]int{5, 2})
	s := []impl.Fact{assigned(3, 5, 20)}
	for role, want := range []bool{true, true, false, true, false, false} {
		if got := impl.HasRole(l, s, 10, role, 8, 5); got != want {
			t.Errorf("HasRole of %d = %v", role, got)
		}
		for _, c := range [][3]int{{11, 8, 5}, {10, 4, 5}, {10, 21, 100}, {10, 8, 2}, {10, 8, -1}, {20, 8, 5}, {-1, 8, 5}} {
			if impl.HasRole(l, s, c[0], role, c[1], c[2]) {
				t.Errorf("%d has the role %d at %d, age %d", c[0], role, c[1], c[2])
			}
		}
		if impl.HasRole(l, nil, 10, role, 8, 5) {
			t.Errorf("without facts, the role %d is there", role)
		}
	}
	for _, role := range noRoles() {
		for _, l := range [][]impl.Includes{nil, l, chain(3, role), slices.Concat(l, chain(3, role, 1))} {
			if impl.HasRole(l, append(s, assigned(role, 5, 20)), 10, role, 8, 5) {
				t.Errorf("by %v, %d is a role", l, role)
			}
		}
	}
}

// drawnRoles draws facts of few people, times and roles, some of other kinds, and some not valid.
func drawnRoles(seed uint32, count int) ([]impl.Includes, []impl.Fact) {
	draw := func(n int) int {
		seed = seed*1664525 + 1013904223
		return int(seed>>16) % n
	}
	l := []impl.Includes{}
	for range draw(maxPairs + 3) {
		l = append(l, impl.Includes{Greater: draw(8) - 1, Lesser: draw(8) - 1})
	}
	var s []impl.Fact
	for range count {
		at := draw(12)
		f := assigned(draw(8)-1, at, at+draw(8)-1)
		f.Kind += draw(8) / 7
		f.Subject += draw(2)
		f.Issuer = draw(11)
		s = append(s, f)
	}
	return l, s
}

func TestDrawnRoles(t *testing.T) {
	for seed := range uint32(300) {
		l, s := drawnRoles(seed, int(seed)%12)
		checkAgainstRoutes(t, l)
		for person := 9; person <= 12; person++ {
			for now := -1; now <= 20; now++ {
				for _, age := range []int{-1, 0, 1, 3, math.MaxInt} {
					checkAgainstStated(t, l, s, person, now, age)
				}
			}
		}
	}
}

// The promise: who has a role has all roles under it, and none that is not under a stated one.
func TestWhoHasARoleHasAllUnderIt(t *testing.T) {
	for seed := range uint32(300) {
		l, s := drawnRoles(seed+1000, 8)
		for now := range 16 {
			all := impl.RolesOf(l, s, 10, now, 4)
			for role := range maxRole + 1 {
				has := impl.HasRole(l, s, 10, role, now, 4)
				if has != slices.Contains(all, role) {
					t.Errorf("HasRole of %d = %v, but RolesOf = %v", role, has, all)
				}
				for _, lesser := range impl.RolesUnder(l, role) {
					if has && !impl.HasRole(l, s, 10, lesser, now, 4) {
						t.Errorf("by %v, who has %d has not %d", l, role, lesser)
					}
				}
				isUnder := slices.ContainsFunc(rolesStated(s, 10, now, 4), func(stated int) bool {
					return slices.Contains(impl.RolesUnder(l, stated), role)
				})
				if has != isUnder {
					t.Errorf("by %v, HasRole of %d = %v at %d", l, role, has, now)
				}
			}
		}
	}
}

func sparedPairs(l []impl.Includes) []impl.Includes {
	return withSpare(l, impl.Includes{Greater: mark, Lesser: mark})
}

func arePairsUntouched(l []impl.Includes, want []impl.Includes) bool {
	return isWithSpare(l, want, impl.Includes{Greater: mark, Lesser: mark})
}

func TestPairsAndFactsAreLeftUntouched(t *testing.T) {
	for _, pairs := range append(somePairs(), noPairs()...) {
		for _, facts := range append(noStores(), nil, []impl.Fact{assigned(3, 5, 20)}, []impl.Fact{assigned(5, 7, 15), assigned(3, 5, 20), assigned(5, 6, 9)}, someFacts(), noFacts()) {
			l, s := sparedPairs(pairs), sparedFacts(facts)
			impl.ArePairs(l)
			impl.TopRoles(l)
			for role := -1; role <= maxRole+1; role++ {
				impl.RolesUnder(l, role)
				impl.HasRole(l, s, 10, role, 8, 5)
			}
			for _, now := range []int{-1, 8, 150} {
				impl.RolesOf(l, s, 10, now, 60)
			}
			if !arePairsUntouched(l, pairs) || !areFactsUntouched(s, facts) {
				t.Errorf("%v and %v became %v and %v", pairs, facts, l, s)
			}
		}
	}
}

// What stands in the spare capacity is no part of a list.
func TestPairsBehindTheList(t *testing.T) {
	whole := slices.Concat(chain(5, 3, 1), ring(1, 5), chain(6, 7), slices.Repeat(chain(4, 2), maxPairs))
	checkPairs(t, whole[:2], true)
	checkTop(t, whole[:2], 0, 2, 4, 5)
	checkUnder(t, whole[:2], 1, 1)
	facts := []impl.Fact{assigned(1, 5, 20), assigned(4, 5, 20)}
	checkRolesOf(t, whole[:2], facts[:1], 10, 8, 5, 1)
}

// Each result is spoiled: no other one may change, neither one from before nor one from behind.
func TestRolesAreNewEachTime(t *testing.T) {
	s := []impl.Fact{assigned(3, 5, 20), assigned(5, 5, 20)}
	for _, l := range append(somePairs(), noPairs()...) {
		r := routesOf(l)
		for name, c := range map[string]struct {
			list func() []int
			want []int
		}{
			"RolesUnder": {func() []int { return impl.RolesUnder(l, 3) }, r.under(3)},
			"RolesOf":    {func() []int { return impl.RolesOf(l, s, 10, 8, 5) }, r.under(3, 5)},
			"TopRoles":   {func() []int { return impl.TopRoles(l) }, rolesOnTop(l)},
			"no role":    {func() []int { return impl.RolesUnder(l, 6) }, nil},
			"no facts":   {func() []int { return impl.RolesOf(l, nil, 10, 8, 5) }, nil},
		} {
			before, first := c.list(), c.list()
			spoilInts(first)
			for _, got := range [][]int{before, c.list()} {
				if !slices.Equal(got, c.want) {
					t.Errorf("%s by %v has become %v, want %v", name, l, got, c.want)
				}
			}
		}
	}
}
