package eval

import (
	"slices"

	"transputer/api"
)

const (
	greatestByte = 255
	greatestBool = 1
)

func isValue(k api.TypeKind) bool { return api.TyInt <= k && k <= api.TyBool }

// areSound reports whether there is a store of a kernel with these variables.
func areSound(vars []api.Var) bool {
	return len(vars) <= api.MaxVars && !slices.ContainsFunc(vars, func(v api.Var) bool {
		return !isValue(v.Kind) || v.Dim < 0 || v.Dim > api.MaxDim
	})
}

// elements returns the number of elements of a sound variable.
func elements(v api.Var) int { return max(v.Dim, 1) }

// fits reports whether x is a value of a kind: TyInt, TyByte or TyBool.
func fits(k api.TypeKind, x int32) bool {
	switch k {
	case api.TyByte:
		return 0 <= x && x <= greatestByte
	case api.TyBool:
		return 0 <= x && x <= greatestBool
	}
	return true
}

// mayHold reports whether the elements of a sound variable may be those of l.
func mayHold(v api.Var, l []int32) bool {
	return len(l) == elements(v) && !slices.ContainsFunc(l, func(x int32) bool { return !fits(v.Kind, x) })
}
