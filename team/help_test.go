package team_test

import (
	"slices"
	"strconv"
	"strings"
	"testing"

	"amble/api"
	"amble/exact"
	"amble/hull"
	"amble/team"
)

// The tests call package team through what it exports. What they expect is
// written out, or found in another way: best shares by trying all shares of
// which as many as possible are at an end, secure ones by a linear program that
// is written a second time, the worst pattern by trying all, rings by acts that
// are done a second time.

// num returns the number of a text.
func num(s string) exact.Q {
	q, e := exact.Parse(s)
	if e != api.OK {
		panic("not a number: " + s)
	}
	return q
}

// nums returns the numbers of texts with blanks between them.
func nums(s string) []exact.Q {
	var l []exact.Q
	for word := range strings.FieldsSeq(s) {
		l = append(l, num(word))
	}
	return l
}

// ints returns the integers of texts with blanks between them; those of "-" are
// none.
func ints(s string) []int {
	var l []int
	for word := range strings.FieldsSeq(s) {
		if word != "-" {
			n, e := strconv.Atoi(word)
			if e != nil {
				panic("not an integer: " + word)
			}
			l = append(l, n)
		}
	}
	return l
}

// listsOf returns the lists of a text like "1 2, 3 4"; none of an empty one.
func listsOf[T any](s string, list func(string) []T) [][]T {
	var l [][]T
	if s != "" {
		for part := range strings.SplitSeq(s, ",") {
			l = append(l, list(part))
		}
	}
	return l
}

func lists(s string) [][]exact.Q { return listsOf(s, nums) }

// sets returns those of a text like "0 1, -, 2", in which one is empty.
func sets(s string) [][]int { return listsOf(s, ints) }

// carriers returns those of a text like "0 0 10 1 5, 2 0 10 1 5": At, Low, High,
// Cost and Jump; where Jump is left out it is 0.
func carriers(s string) []team.Carrier {
	var l []team.Carrier
	for _, q := range lists(s) {
		q = append(q, exact.Q{})
		l = append(l, team.Carrier{At: q[0], Low: q[1], High: q[2], Cost: q[3], Jump: q[4]})
	}
	return l
}

// load returns the one of a text like "12 1": the weight, and where it is.
func load(s string) team.Load {
	l := nums(s)
	return team.Load{Weight: l[0], At: l[1]}
}

// net returns the one of a text like "2 1/3: 0 1, 1 0": size, weight and links.
func net(s string) team.Net {
	head, links, _ := strings.Cut(s, ":")
	words := strings.Fields(head)
	size, _ := strconv.Atoi(words[0])
	n := team.Net{Size: size, Weight: num(words[1])}
	for _, link := range sets(strings.TrimSpace(links)) {
		n.Links = append(n.Links, [2]int{link[0], link[1]})
	}
	return n
}

// acts returns those of a text like "give 0, bring 1".
func acts(s string) []team.Act {
	kinds := [...]string{"", "step", "give", "bring", "lose", "double"}
	var l []team.Act
	for _, words := range listsOf(s, strings.Fields) {
		kind := slices.Index(kinds[:], words[0])
		if kind < 0 {
			kind, _ = strconv.Atoi(words[0])
		}
		l = append(l, team.Act{Kind: uint8(kind), Who: ints(words[1])[0]})
	}
	return l
}

// ring returns the one of a text like "1 2 - 0, 2 0 has 1: 1 2": Seen, Given,
// whether it has the token, and Steps of each member; and the messages.
func ring(s string) team.Ring {
	members, messages, _ := strings.Cut(s, ":")
	var r team.Ring
	for _, words := range listsOf(members, strings.Fields) {
		n := ints(words[0] + " " + words[1] + " " + words[3])
		r.Members = append(r.Members, team.Member{Seen: n[0], Given: n[1], Has: words[2] == "has", Steps: n[2]})
	}
	for _, n := range sets(strings.TrimSpace(messages)) {
		r.Flying = append(r.Flying, team.Message{To: n[0], Number: n[1]})
	}
	return r
}

// joined returns the texts of a list with something between them.
func joined[T any](l []T, between string, text func(T) string) string {
	var words []string
	for _, x := range l {
		words = append(words, text(x))
	}
	return strings.Join(words, between)
}

func numsText(l []exact.Q) string { return joined(l, " ", exact.Q.Text) }

func listsText(l [][]exact.Q) string { return joined(l, ", ", numsText) }

func intsText(l []int) string { return joined(l, " ", strconv.Itoa) }

// setText returns the text of a set, as sets takes it.
func setText(l []int) string {
	if len(l) == 0 {
		return "-"
	}
	return intsText(l)
}

func setsText(l [][]int) string { return joined(l, ", ", setText) }

func carriersText(l []team.Carrier) string {
	return joined(l, ", ", func(c team.Carrier) string { return numsText([]exact.Q{c.At, c.Low, c.High, c.Cost, c.Jump}) })
}

func loadText(w team.Load) string { return numsText([]exact.Q{w.Weight, w.At}) }

// caseText names carriers with a load.
func caseText(l []team.Carrier, w team.Load) string { return carriersText(l) + "; " + loadText(w) }

func polyText(p hull.Poly) string {
	row := func(r hull.Row) string { return numsText(r.A) + " <= " + r.B.Text() }
	return strconv.Itoa(p.N) + ": " + joined(p.Rows, "; ", row)
}

func pairText(p [2]int) string { return intsText(p[:]) }

func netText(n team.Net) string {
	return strconv.Itoa(n.Size) + " " + n.Weight.Text() + ": " + joined(n.Links, ", ", pairText)
}

func memberText(m team.Member) string {
	has := "-"
	if m.Has {
		has = "has"
	}
	return intsText([]int{m.Seen, m.Given}) + " " + has + " " + strconv.Itoa(m.Steps)
}

// ringText returns the text of a ring, as ring takes it.
func ringText(r team.Ring) string {
	message := func(m team.Message) string { return intsText([]int{m.To, m.Number}) }
	return joined(r.Members, ", ", memberText) + ": " + joined(r.Flying, ", ", message)
}

func actText(a team.Act) string { return strconv.Itoa(int(a.Kind)) + " " + strconv.Itoa(a.Who) }

func codesText(l []api.Errno) string {
	return joined(l, " ", func(e api.Errno) string { return strconv.Itoa(int(e)) })
}

// expect compares what a call gave with what it should give.
func expect(t *testing.T, call, got, want string) {
	t.Helper()
	if got != want {
		t.Errorf("%s: got %s, want %s", call, got, want)
	}
}

func expectError(t *testing.T, call string, got, want api.Errno) {
	t.Helper()
	if got != want {
		t.Errorf("%s: got the error %d, want %d", call, got, want)
	}
}

// expectOK compares what a call gave that should have no error.
func expectOK(t *testing.T, call, got string, e api.Errno, want string) {
	t.Helper()
	expectError(t, call, e, api.OK)
	expect(t, call, got, want)
}

// expectFailed compares an error, with which nothing is given.
func expectFailed(t *testing.T, call, got string, e, want api.Errno) {
	t.Helper()
	expectError(t, call, e, want)
	expect(t, call+" with an error", got, "")
}

// priced returns the text of shares with their cost; nothing if there are none.
func priced(shares []exact.Q, cost exact.Q) string {
	if len(shares) == 0 && cost.Sign() == 0 {
		return ""
	}
	return numsText(shares) + " for " + cost.Text()
}

// over returns a / b; b is not 0.
func over(a, b exact.Q) exact.Q {
	q, _ := a.Div(b)
	return q
}

// times returns a list of so many times the same.
func times[T any](n int, x T) []T {
	l := make([]T, n)
	for i := range l {
		l[i] = x
	}
	return l
}

// with returns a copy of a list in which one element is another one.
func with[T any](l []T, i int, x T) []T {
	l = slices.Clone(l)
	l[i] = x
	return l
}

// dot returns the sum of the products of two lists.
func dot(a, b []exact.Q) exact.Q {
	var sum exact.Q
	for i := range a {
		sum = sum.Add(a[i].Mul(b[i]))
	}
	return sum
}

// each returns a number of each carrier.
func each(l []team.Carrier, number func(team.Carrier) exact.Q) []exact.Q {
	var all []exact.Q
	for _, c := range l {
		all = append(all, number(c))
	}
	return all
}

func places(l []team.Carrier) []exact.Q {
	return each(l, func(c team.Carrier) exact.Q { return c.At })
}

func costs(l []team.Carrier) []exact.Q {
	return each(l, func(c team.Carrier) exact.Q { return c.Cost })
}

// holds reports whether shares hold a load, by the chapter's words.
func holds(l []team.Carrier, w team.Load, shares []exact.Q) bool {
	if len(shares) != len(l) {
		return false
	}
	for i, c := range l {
		if shares[i].Cmp(c.Low) < 0 || shares[i].Cmp(c.High) > 0 {
			return false
		}
	}
	return exact.Sum(shares...).Cmp(w.Weight) == 0 && dot(places(l), shares).Cmp(w.Weight.Mul(w.At)) == 0
}

// left returns the carriers, of which one carries nothing.
func left(l []team.Carrier, who int) []team.Carrier {
	c := l[who]
	c.Low, c.High = exact.Q{}, exact.Q{}
	return with(l, who, c)
}

// parted returns the carriers and the load of a text with a semicolon between
// them.
func parted(s string) ([]team.Carrier, team.Load) {
	first, second, _ := strings.Cut(s, ";")
	return carriers(first), load(second)
}
