package curve

import (
	"portico/api"
	"portico/limbs"
)

// A projective holds projective coordinates in Montgomery form. They stand for
// the point (x / z, y / z), or for the point at infinity if z is 0. With them a
// sum takes no inverse, which costs as much as hundreds of products.
type projective struct {
	x, y, z api.Num
}

func (c *Curve) infinity() projective {
	return projective{y: c.field.One()}
}

// toProjective returns the projective coordinates of a point.
func (c *Curve) toProjective(a Point) projective {
	if a.None {
		return c.infinity()
	}
	return projective{c.field.In(a.X), c.field.In(a.Y), c.field.One()}
}

// toAffine returns the point of projective coordinates.
func (c *Curve) toAffine(a projective) Point {
	if limbs.Zero(a.z) {
		return Point{None: true}
	}
	f := c.field
	inverse := f.Inv(a.z)
	return Point{X: f.Out(f.Times(a.x, inverse)), Y: f.Out(f.Times(a.y, inverse))}
}

// sum returns a + b by the complete addition law of Renes, Costello and Batina
// ("Complete addition formulas for prime order elliptic curves", 2015). Since
// the curve's order is odd, the law holds for all pairs of its points: equal
// points, opposite ones and the point at infinity are no special cases.
func (c *Curve) sum(a, b projective) projective {
	f := c.field
	xx, yy, zz := f.Times(a.x, b.x), f.Times(a.y, b.y), f.Times(a.z, b.z)
	xy := c.crossed(a.x, a.y, b.x, b.y, f.Add(xx, yy))
	yz := c.crossed(a.y, a.z, b.y, b.z, f.Add(yy, zz))
	xz := c.crossed(a.x, a.z, b.x, b.z, f.Add(xx, zz))

	zz3 := c.triple(zz)
	d := c.triple(f.Sub(xz, f.Times(c.b, zz)))
	low, high := f.Sub(yy, d), f.Add(yy, d)
	e := c.triple(f.Sub(f.Times(c.b, xz), f.Add(zz3, xx)))
	g := f.Sub(c.triple(xx), zz3)

	return projective{
		x: f.Sub(f.Times(xy, high), f.Times(yz, e)),
		y: f.Add(f.Times(high, low), f.Times(g, e)),
		z: f.Add(f.Times(yz, low), f.Times(xy, g)),
	}
}

// crossed returns a1 b2 + b1 a2 by one product; straight is a1 a2 + b1 b2.
func (c *Curve) crossed(a1, b1, a2, b2, straight api.Num) api.Num {
	f := c.field
	return f.Sub(f.Times(f.Add(a1, b1), f.Add(a2, b2)), straight)
}

func (c *Curve) triple(a api.Num) api.Num {
	return c.field.Add(c.field.Add(a, a), a)
}
