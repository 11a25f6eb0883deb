// Package field is layer 1: numbers modulo p = 2^255 - 19 (see shared/doc/01-field.md).
package field

import "pigeonry/api"

// Canon: a number as what is left of it.
func Canon(a api.Key) api.Key { return keyOf(numberOf(a)) }

// Add: a sum.
func Add(a, b api.Key) api.Key { return keyOf(sum(numberOf(a), numberOf(b))) }

// Sub: a difference.
func Sub(a, b api.Key) api.Key { return keyOf(difference(numberOf(a), numberOf(b))) }

// Mul: a product.
func Mul(a, b api.Key) api.Key { return keyOf(product(numberOf(a), numberOf(b))) }

// Inv: what a number has to be multiplied by to be one.
func Inv(a api.Key) api.Key { return keyOf(inverse(numberOf(a))) }

// Zero: is a number nought?
func Zero(a api.Key) bool { return numberOf(a) == number{} }
