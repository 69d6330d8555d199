package check_test

import (
	"math/rand/v2"
	"slices"
	"testing"

	"tithing/api"
	"tithing/check"
	"tithing/expr"
)

// partOf returns the expression that ends with the node at an index.
func partOf(e []api.Node, at int) []api.Node {
	operands, _ := expr.Args(e)
	begin := at
	for len(operands[begin]) > 0 {
		begin = operands[begin][0]
	}
	return e[begin : at+1]
}

func TestP8_4Parts(t *testing.T) {
	sigs := everySig()
	for _, s := range someSamples(5, 300) {
		types, _ := check.Types(sigs, s.nodes)
		for at := range s.nodes {
			checkType(t, sigs, partOf(s.nodes, at), types[at], api.OK)
		}
	}
}

// uselessSigs returns sigs for each name of an expression that do not count, and some of names that it has not.
func uselessSigs(e []api.Node) []api.Sig {
	l := []api.Sig{{}, {Op: api.OpFact}, {Op: api.OpFact, Name: "x", Type: truth}, {Op: api.OpRate, Name: "x", Type: number(1, 0)}, {Op: -1, Name: "x"}}
	for _, n := range expr.Refs(e) {
		for _, is := range []api.Type{number(4, 0), number(0, -4), {Truth: true, Unit: api.Unit{Money: 1}}} {
			l = append(l, api.Sig{Op: n.Op, Name: n.Name, Type: is})
		}
		l = append(l, api.Sig{Op: n.Op + 100, Name: n.Name, Type: number(0, 0)}, api.Sig{Op: api.OpAdd, Name: n.Name, Type: truth})
		if n.Op == api.OpRate {
			l = append(l, api.Sig{Op: n.Op, Name: n.Name, Type: truth})
		}
	}
	return l
}

// TestP8_4Sigs checks that sigs that do not count, later ones, and those of other names do not matter.
func TestP8_4Sigs(t *testing.T) {
	r := rand.New(rand.NewPCG(8, 4))
	for _, s := range someSamples(6, 500) {
		useless := uselessSigs(s.nodes)
		var needed, later []api.Sig
		for _, sig := range everySig() {
			if slices.Contains(expr.Refs(s.nodes), api.Node{Op: sig.Op, Name: sig.Name}) {
				needed = append(needed, sig)
				later = append(later, api.Sig{Op: sig.Op, Name: sig.Name, Type: allTypes()[r.IntN(50)]})
			}
		}
		checkType(t, needed, s.nodes, s.is, api.OK)
		checkType(t, slices.Concat(useless, needed, later, useless), s.nodes, s.is, api.OK)
		for place := range needed {
			without := slices.Concat(useless, needed[:place], needed[place+1:])
			checkTypes(t, without, s.nodes, nil, api.ErrName)
		}
	}
}

func TestP8_5Swap(t *testing.T) {
	sigs := everySig()
	for _, s := range someSamples(7, 500) {
		types, _ := check.Types(sigs, s.nodes)
		for at := range s.nodes {
			for _, n := range []api.Rat{num("0"), num("1"), num("-3/7"), num("1/1000")} {
				if swapped, errno := expr.Swap(s.nodes, at, n); errno == api.OK {
					checkTypes(t, sigs, swapped, types, api.OK)
				}
			}
		}
	}
}

func TestP8_5Subst(t *testing.T) {
	r := rand.New(rand.NewPCG(8, 5))
	sigs := everySig()
	replaced := 0
	for _, s := range someSamples(8, 2000) {
		for _, sig := range sigs {
			if !slices.Contains(s.nodes, api.Node{Op: api.OpOwn, Name: sig.Name}) || sig.Op != api.OpOwn {
				continue
			}
			by := someOf(r, sig.Type, 1+r.IntN(5))
			if made, errno := expr.Subst(s.nodes, sig.Name, by); errno == api.OK {
				checkType(t, sigs, made, s.is, api.OK)
				replaced++
			}
		}
	}
	if replaced < 1000 {
		t.Errorf("only %d names have been replaced", replaced)
	}
}

// TestP8_5SubstOther checks that what has another type is found.
func TestP8_5SubstOther(t *testing.T) {
	e := parsed("add(own.n43, $1)")
	for _, of := range allTypes() {
		made, _ := expr.Subst(e, "n43", []api.Node{{Op: api.OpFact, Name: nameOf(of)}})
		if of == number(1, 0) {
			checkType(t, everySig(), made, of, api.OK)
		} else {
			checkType(t, everySig(), made, api.Type{}, api.ErrType)
		}
	}
}

func TestP8_6Later(t *testing.T) {
	r := rand.New(rand.NewPCG(8, 6))
	for _, s := range someSamples(9, 500) {
		sigs := everySig()
		for range 20 {
			n := someLeaf(r, s.is)
			sigs = append(sigs, api.Sig{Op: n.Op, Name: n.Name, Type: allTypes()[r.IntN(50)]}, api.Sig{Op: r.IntN(30), Name: nameOf(allTypes()[r.IntN(50)]), Type: noTypes()[r.IntN(len(noTypes()))]})
		}
		checkType(t, sigs, s.nodes, s.is, api.OK)
	}
}
