package quat

import (
	"math"

	"binnacle/anatomy"
	"binnacle/api"
	"binnacle/convert"
	"binnacle/dyad"
	"binnacle/matrix"
	"binnacle/qr"
)

// four is a quaternion's numbers, W first, to be gone through.
type four [4]float64

func fourOf(q api.Quat) four { return four{q.W, q.X, q.Y, q.Z} }

func (f four) quat() api.Quat { return api.Quat{W: f[0], X: f[1], Y: f[2], Z: f[3]} }

// with is the four numbers of w and a vector.
func with(w float64, v api.Vec) four { return four{w, v[0], v[1], v[2]} }

func finite(q api.Quat) bool {
	f := fourOf(q)
	return anatomy.Finite(f[:])
}

// checkSpace tells whether a matrix is one of space. What P8 says comes ahead of its shape.
func checkSpace(m api.Mat) api.Errno {
	if err := matrix.Check(m); err != api.OK {
		return err
	}
	if m.Rows != 3 || m.Cols != 3 {
		return api.ErrShape
	}
	return api.OK
}

// settled answers a vector, if it may be answered. Looking at the end is enough: in the sums, differences and quotients by finite numbers of the face, what isn't finite stays so, and times 0 too.
func settled(v api.Vec) (api.Vec, api.Errno) {
	if !anatomy.Finite(v[:]) {
		return api.Vec{}, api.ErrOver
	}
	return v, api.OK
}

// unit brings what a formula has made to length 1.
func unit(f four) (api.Quat, api.Errno) {
	switch {
	case !anatomy.Finite(f[:]):
		return api.Quat{}, api.ErrOver
	case f == four{}:
		return api.Quat{}, api.ErrZero
	}
	k := power(f)
	for i := range 4 {
		f[i], _, _ = convert.Scale(f[i], -k, api.ModeNear)
	}
	r := math.Sqrt(dot(f, f))
	for i := range 4 {
		f[i] /= r
	}
	return f.quat(), api.OK
}

// power is that of four numbers that aren't all 0.
func power(f four) int {
	most := 0.0
	for i := range 4 {
		most = max(most, math.Abs(f[i]))
	}
	// The fraction that Frexp tells is from a half on, not from 1.
	_, k := math.Frexp(most)
	return k - 1
}

// dot begins with the first product, not with a +0, which would take the minus from a sum of noughts. Here and below each product is turned into a float64 ahead of being added, so that the two aren't fused.
func dot(a, b four) float64 {
	sum := float64(a[0] * b[0])
	for i := range 3 {
		sum += float64(a[i+1] * b[i+1])
	}
	return sum
}

func conj(q api.Quat) api.Quat { return api.Quat{W: q.W, X: -q.X, Y: -q.Y, Z: -q.Z} }

func product(a, b api.Quat) four {
	return four{
		float64(a.W*b.W) - float64(a.X*b.X) - float64(a.Y*b.Y) - float64(a.Z*b.Z),
		float64(a.W*b.X) + float64(a.X*b.W) + float64(a.Y*b.Z) - float64(a.Z*b.Y),
		float64(a.W*b.Y) - float64(a.X*b.Z) + float64(a.Y*b.W) + float64(a.Z*b.X),
		float64(a.W*b.Z) + float64(a.X*b.Y) - float64(a.Y*b.X) + float64(a.Z*b.W),
	}
}

func cross(a, b api.Vec) api.Vec {
	return api.Vec{
		float64(a[1]*b[2]) - float64(a[2]*b[1]),
		float64(a[2]*b[0]) - float64(a[0]*b[2]),
		float64(a[0]*b[1]) - float64(a[1]*b[0]),
	}
}

func at(m api.Mat, i, j int) float64 { return m.At[i*m.Cols+j] }

// rotation is the numbers of a quaternion's matrix, row by row.
func rotation(q api.Quat) []float64 {
	xx, yy, zz := float64(q.X*q.X), float64(q.Y*q.Y), float64(q.Z*q.Z)
	xy, xz, yz := float64(q.X*q.Y), float64(q.X*q.Z), float64(q.Y*q.Z)
	wx, wy, wz := float64(q.W*q.X), float64(q.W*q.Y), float64(q.W*q.Z)
	return []float64{
		1 - float64(2*(yy+zz)), 2 * (xy - wz), 2 * (xz + wy),
		2 * (xy + wz), 1 - float64(2*(xx+zz)), 2 * (yz - wx),
		2 * (xz - wy), 2 * (yz + wx), 1 - float64(2*(xx+yy)),
	}
}

// greatest is the place of the first number that none is above.
func greatest(f four) int {
	place := 0
	for i := range 4 {
		if f[i] > f[place] {
			place = i
		}
	}
	return place
}

// direction is a vector that isn't 0, divided by its length. No number is above the length, so no quotient is beyond.
func direction(v api.Vec) (api.Vec, api.Errno) {
	length, err := qr.Length(v[:])
	if err != api.OK {
		return api.Vec{}, err
	}
	for i := range 3 {
		v[i] /= length
	}
	return v, api.OK
}

// leastAxis is the axis on which a vector leans least, the first of such: the cross product with it can't be 0.
func leastAxis(v api.Vec) api.Vec {
	place := 0
	for i := range 3 {
		if math.Abs(v[i]) < math.Abs(v[place]) {
			place = i
		}
	}
	var axis api.Vec
	axis[place] = 1
	return axis
}

// nearOne tells whether a sum of squares is at most 2^-48 off 1. Sums and products of so few numbers are far within what dyads hold: no error can come.
func nearOne(f four) bool {
	off, _ := dyad.Dot(append(f[:], 1), append(f[:], -1))
	off.Neg = false
	sign, _ := dyad.Compare(off, api.Dyad{Mag: []uint32{1}, Exp: -48})
	return sign <= 0
}
