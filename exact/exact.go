// Package exact is layer 1: rational numbers of any size, numbers with one
// square root, points and rotations of the plane, and matrices.
package exact

// Q is a rational number in lowest terms. The sign and the size of its
// numerator are embedded in it; a denominator of 1 is kept as 0, so that the
// zero Q is the number 0, and each number has only one form.
type Q struct {
	signed
	den mag
}

// Surd stands for A + B √D, and for nothing if D is negative.
type Surd struct{ A, B, D Q }

// Point is a point of the plane in which a machine walks.
type Point struct{ X, Z Q }

// Rot is a rotation from x towards z, by the angle with the cosine C and the
// sine S.
type Rot struct{ C, S Q }

// Mat is a matrix, a list of rows.
type Mat [][]Q
