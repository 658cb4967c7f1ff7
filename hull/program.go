package hull

import (
	"amble/api"
	"amble/exact"
	"amble/whole"
)

// program is a polyhedron of which linear programs are solved, one after
// another, from where the last one ended. factors are what its rows are
// multiplied by in the tableau. If it is void, broken is a row that shows this
// together with those of the basis.
type program struct {
	*tableau
	factors []exact.Q
	broken  int
	isVoid  bool
}

func newProgram(n int, rows []Row) program {
	vecs, factors := make([]vec, len(rows)), make([]exact.Q, len(rows))
	for i, r := range rows {
		vecs[i], factors[i] = vecOfRow(r)
	}
	g := program{tableau: newTableau(n, vecs), factors: factors}
	row, ok := g.settle()
	g.broken, g.isVoid = row, !ok
	return g
}

// basisWeights returns the weights of the rows of the basis that give the
// goal, which has the product gain(d) with a direction d, or its negative.
func (g program) basisWeights(gain func(vec) whole.Int, factor exact.Q) []exact.Q {
	weights := make([]exact.Q, len(g.rows))
	for _, e := range g.edges {
		share := over(gain(e.vec).Q(), g.rows[e.row].dot(e.vec).Q())
		weights[e.row] = share.Mul(g.factors[e.row]).Mul(factor)
	}
	return weights
}

// voidWeights returns weights that show that there is no point.
func (g program) voidWeights() []exact.Q {
	weights := g.basisWeights(g.rows[g.broken].dot, exact.Int(-1))
	weights[g.broken] = g.factors[g.broken]
	return weights
}

// answer maximises c·x.
func (g program) answer(c []exact.Q) Answer {
	if g.isVoid {
		return Answer{Kind: Void, Weights: g.voidWeights()}
	}
	n := len(c)
	goal, factor := vecOf(append(c[:n:n], exact.Q{}))
	ray, open := g.rise(goal.dot)
	point := g.vertex.point()
	if open {
		return Answer{Kind: Unbounded, Point: point, Ray: ray[:n:n].list()}
	}
	weights := g.basisWeights(goal.dot, over(exact.Int(1), factor))
	return Answer{Kind: Optimal, Value: dot(c, point), Point: point, Weights: weights}
}

// Maximize returns a right answer to maximising c·x over p.
func Maximize(c []exact.Q, p Poly) (Answer, api.Errno) {
	if e := checkWith(c, p); e != api.OK {
		return Answer{}, e
	}
	return newProgram(p.N, p.Rows).answer(c), api.OK
}

// Prove reports whether the answer to maximising c·x over p is right.
func Prove(c []exact.Q, p Poly, a Answer) bool {
	if checkWith(c, p) != api.OK {
		return false
	}
	switch a.Kind {
	case Optimal:
		return a.isOptimal(c, p)
	case Unbounded:
		return a.isUnbounded(c, p)
	case Void:
		return a.Value.Sign() == 0 && len(a.Point) == 0 && len(a.Ray) == 0 && showVoid(p, a.Weights)
	}
	return false
}

func (a Answer) isOptimal(c []exact.Q, p Poly) bool {
	if !Has(p, a.Point) || dot(c, a.Point).Cmp(a.Value) != 0 {
		return false
	}
	if len(a.Ray) != 0 || !areWeights(a.Weights, len(p.Rows)) {
		return false
	}
	sum := combination(p.N, p.Rows, a.Weights)
	return compare(sum.A, c) == 0 && sum.B.Cmp(a.Value) == 0
}

func (a Answer) isUnbounded(c []exact.Q, p Poly) bool {
	if !Has(p, a.Point) || len(a.Ray) != p.N || dot(c, a.Ray).Sign() <= 0 {
		return false
	}
	for _, r := range p.Rows {
		if dot(r.A, a.Ray).Sign() > 0 {
			return false
		}
	}
	return a.Value.Sign() == 0 && len(a.Weights) == 0
}

// showVoid reports whether l are weights that show that p has no point.
func showVoid(p Poly, l []exact.Q) bool {
	if !areWeights(l, len(p.Rows)) {
		return false
	}
	sum := combination(p.N, p.Rows, l)
	return isZero(sum.A) && sum.B.Sign() < 0
}

// descent returns how much lower, in the order of points, a direction leads:
// the negative of its first number that is not 0.
func descent(along vec) whole.Int {
	for i := range along {
		if along[i].Sign() != 0 {
			return along[i].Neg()
		}
	}
	return whole.Int{}
}

// Least returns the least point of p.
func Least(p Poly) ([]exact.Q, api.Errno) {
	if e := Check(p); e != api.OK {
		return nil, e
	}
	g := newProgram(p.N, p.Rows)
	if g.isVoid {
		return nil, api.ErrVoid
	}
	if _, open := g.rise(descent); open {
		return nil, api.ErrOpen
	}
	return g.vertex.point(), api.OK
}

// Bounds returns the least and the greatest value of c·x over p, and whether
// there are such.
func Bounds(c []exact.Q, p Poly) (low, high exact.Q, below, above bool, e api.Errno) {
	if e := checkWith(c, p); e != api.OK {
		return low, high, false, false, e
	}
	g := newProgram(p.N, p.Rows)
	if g.isVoid {
		return low, high, false, false, api.ErrVoid
	}
	most, least := g.answer(c), g.answer(negated(c))
	return least.Value.Neg(), most.Value, least.Kind == Optimal, most.Kind == Optimal, api.OK
}
