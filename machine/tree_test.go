package machine_test

import (
	"math"
	"strconv"
	"strings"
	"testing"

	"amble/api"
	"amble/exact"
	"amble/machine"
)

// P3.6: Names, of any machine.
func TestNamesOfBodies(t *testing.T) {
	expect(t, "Names", strings.Join(machine.Names(rich()), " "), "trunk Thigh _shin2 arm")
	expect(t, "Names of 14", strconv.Itoa(len(machine.Names(withBodies(14)))), "14")
	if names := machine.Names(machine.Machine{Name: "m"}); len(names) != 0 {
		t.Error("Names of nothing:", names)
	}
	wrong := machine.Machine{Bodies: []machine.Body{{Name: "b"}, {}, {Name: "a b"}, {Name: "b"}}}
	expect(t, "Names of no machine", strings.Join(machine.Names(wrong), "|"), "b||a b|b")
}

func expectList(t *testing.T, call string, l []int, e api.Errno, want string) {
	t.Helper()
	expectError(t, call, e, api.OK)
	expect(t, call, intsText(l), want)
}

// branches returns a machine of eight bodies with these parents.
func branches() machine.Machine {
	m := withBodies(8)
	for i, parent := range []int{-1, 0, 0, 1, 3, 1, 0, 5} {
		m.Bodies[i].Parent = parent
	}
	return m
}

// P3.6: Chain and Children.
func TestChainAndChildren(t *testing.T) {
	m := branches()
	chains := []string{"0", "0 1", "0 2", "0 1 3", "0 1 3 4", "0 1 5", "0 6", "0 1 5 7"}
	children := []string{"1 2 6", "3 5", "", "4", "", "7", "", ""}
	for i := range m.Bodies {
		l, e := machine.Chain(m, i)
		expectList(t, "Chain", l, e, chains[i])
		l, e = machine.Children(m, i)
		expectList(t, "Children", l, e, children[i])
	}
	long := withBodies(12)
	l, e := machine.Chain(long, 11)
	expectList(t, "a long Chain", l, e, "0 3 4 5 6 7 8 9 10 11")
	call := func(name string, m machine.Machine, body int, want api.Errno) {
		t.Helper()
		l, e := machine.Chain(m, body)
		expectError(t, "Chain, "+name, e, want)
		k, f := machine.Children(m, body)
		expectError(t, "Children, "+name, f, want)
		expect(t, name, intsText(l)+intsText(k), "")
	}
	for _, body := range []int{-1, 8, math.MaxInt, math.MinInt} {
		call("no body", m, body, api.ErrRange)
		call("13 bodies", withBodies(13), body, api.ErrLimit)
	}
	m.Bodies[3].Name = m.Bodies[2].Name
	call("a name twice", m, 1, api.ErrTwice)
	call("a name twice, and no body", m, 9, api.ErrTwice)
	call("nothing", machine.Machine{}, 0, api.ErrName)
	m = branches()
	m.Bodies[1].Parent = 1
	call("a wrong parent", m, 1, api.ErrArg)
}

// P3.6: Weight.
func TestWeight(t *testing.T) {
	sum, e := machine.Weight(rich())
	expectError(t, "Weight", e, api.OK)
	expect(t, "Weight", sum.Text(), "14")
	small := machine.Machine{Name: "m", Bodies: rich().Bodies[:1]}
	sum, e = machine.Weight(small)
	expectError(t, "Weight of a trunk", e, api.OK)
	expect(t, "Weight of a trunk", sum.Text(), "10")
	for _, c := range []struct {
		m    machine.Machine
		want api.Errno
	}{{machine.Machine{}, api.ErrName}, {machine.Machine{Name: "m"}, api.ErrArg}, {withBodies(13), api.ErrLimit}} {
		sum, e := machine.Weight(c.m)
		expectError(t, "Weight", e, c.want)
		if sum.Cmp(exact.Q{}) != 0 {
			t.Error("Weight with an error:", sum.Text())
		}
	}
}
