package number

import (
	"math"

	"quill/api"
)

// pair is two numbers that an operator stands between.
type pair struct{ x, y float64 }

func (p pair) sum() float64        { return p.x + p.y }
func (p pair) difference() float64 { return p.x - p.y }
func (p pair) quotient() float64   { return p.x / p.y }
func (p pair) rest() float64       { return math.Mod(p.x, p.y) }

// product is rounded by itself, whatever is done with it.
func (p pair) product() float64 { return float64(p.x * p.y) }

// places is by how many bits a shift goes.
func (p pair) places() uint32 { return Uint32(p.y) % 32 }

func (p pair) left() float64     { return float64(Int32(p.x) << p.places()) }
func (p pair) right() float64    { return float64(Int32(p.x) >> p.places()) }
func (p pair) unsigned() float64 { return float64(Uint32(p.x) >> p.places()) }

func (p pair) and() float64 { return float64(Int32(p.x) & Int32(p.y)) }
func (p pair) or() float64  { return float64(Int32(p.x) | Int32(p.y)) }
func (p pair) xor() float64 { return float64(Int32(p.x) ^ Int32(p.y)) }

// binary is an operator that stands between two numbers.
type binary struct {
	op     string
	reckon func(pair) float64
}

func binaries() [11]binary {
	return [11]binary{
		{"+", pair.sum},
		{"-", pair.difference},
		{"*", pair.product},
		{"/", pair.quotient},
		{"%", pair.rest},
		{"&", pair.and},
		{"|", pair.or},
		{"^", pair.xor},
		{"<<", pair.left},
		{">>", pair.right},
		{">>>", pair.unsigned},
	}
}

// Binary is what an operator makes of two numbers.
func Binary(op string, x, y float64) (float64, api.Errno) {
	for _, b := range binaries() {
		if b.op == op {
			return told(b.reckon(pair{x, y})), api.OK
		}
	}
	return 0, api.ErrArg
}

// single is a number that an operator stands ahead of.
type single float64

func (x single) itself() float64   { return float64(x) }
func (x single) negative() float64 { return -float64(x) }
func (x single) not() float64      { return float64(^Int32(float64(x))) }

// unary is an operator that stands ahead of a number.
type unary struct {
	op     string
	reckon func(single) float64
}

func unaries() [3]unary {
	return [3]unary{{"+", single.itself}, {"-", single.negative}, {"~", single.not}}
}

// Unary is what an operator makes of a number.
func Unary(op string, x float64) (float64, api.Errno) {
	for _, u := range unaries() {
		if u.op == op {
			return told(u.reckon(single(x))), api.OK
		}
	}
	return 0, api.ErrArg
}
