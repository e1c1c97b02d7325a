package tests

import (
	"fmt"
	"slices"
	"strings"
	"testing"

	"loop.example/g00370/impl"
)

// This is chapter 5 reckoned once more, node by node from a node's way to the Root alone: nothing is carried from one node to the next.

func funcsWanted(tree impl.Tree) []int {
	var list []int
	for _, k := range tree.Nodes[tree.Root].Kids {
		if tree.Nodes[k].Kind == impl.NoFunc {
			list = append(list, k)
		}
	}
	return list
}

func beginsWanted(tree impl.Tree, unit int) []string {
	if unit == tree.Root {
		return []string{"path"}
	}
	return tree.Nodes[unit].Names
}

// knownWanted has the names that are known ahead of a node, and those of them that its own block has.
func knownWanted(tree impl.Tree, parents []int, k int) (known, own []string) {
	way := pathWanted(parents, k)
	if len(way) > 1 && tree.Nodes[way[1]].Kind == impl.NoFunc {
		way = way[1:]
	}
	known = slices.Clone(beginsWanted(tree, way[0]))
	outside := 0
	for i, at := range way[:len(way)-1] {
		n, next := tree.Nodes[at], way[i+1]
		if n.Kind == impl.NoTry && n.Kids[1] == next {
			known = append(known, n.Text)
		}
		if n.Kind != impl.NoBlock {
			continue
		}
		if at != tree.Root {
			outside = len(known)
		}
		for _, ahead := range n.Kids[:slices.Index(n.Kids, next)] {
			if tree.Nodes[ahead].Kind == impl.NoLet {
				known = append(known, tree.Nodes[ahead].Text)
			}
		}
	}
	return known, known[outside:]
}

// argumentsWanted is -1 of what is no function and no builtin.
func argumentsWanted(tree impl.Tree, name string) int {
	for _, f := range funcsWanted(tree) {
		if tree.Nodes[f].Text == name {
			return len(tree.Nodes[f].Names)
		}
	}
	if count, found := builtinCounts()[name]; found {
		return count
	}
	return -1
}

func nodeFaultWanted(tree impl.Tree, parents []int, k int) int {
	n := tree.Nodes[k]
	known, own := knownWanted(tree, parents, k)
	switch n.Kind {
	case impl.NoName, impl.NoSet:
		if !slices.Contains(known, n.Text) {
			return impl.ErrName
		}
	case impl.NoCall:
		count := argumentsWanted(tree, n.Text)
		if count < 0 {
			return impl.ErrName
		}
		if count != len(n.Kids) {
			return impl.ErrCount
		}
	case impl.NoLet, impl.NoTry:
		if slices.Contains(own, n.Text) {
			return impl.ErrTwice
		}
		if len(known) >= 20 {
			return impl.ErrFull
		}
	case impl.NoFunc:
		for i, name := range n.Names {
			if slices.Contains(n.Names[:i], name) {
				return impl.ErrTwice
			}
		}
	}
	return impl.OK
}

// asLookedAt has the nodes from k on in the order in which their faults count; functions below the Root are left out.
func asLookedAt(tree impl.Tree, k int) []int {
	var list []int
	for _, kid := range tree.Nodes[k].Kids {
		if tree.Nodes[kid].Kind != impl.NoFunc {
			list = append(list, asLookedAt(tree, kid)...)
		}
	}
	if tree.Nodes[k].Kind == impl.NoLet {
		return append(list, k)
	}
	return append([]int{k}, list...)
}

func faultWanted(tree impl.Tree) impl.Fault {
	functions := funcsWanted(tree)
	for i, f := range functions {
		name := tree.Nodes[f].Text
		_, builtin := builtinCounts()[name]
		if builtin || slices.ContainsFunc(functions[:i], func(g int) bool { return tree.Nodes[g].Text == name }) {
			return impl.Fault{Code: impl.ErrTwice, Node: f}
		}
		if i == 8 || len(tree.Nodes[f].Names) > 4 {
			return impl.Fault{Code: impl.ErrMany, Node: f}
		}
	}
	parents := parentsOf(tree)
	for _, unit := range append(functions, tree.Root) {
		for _, k := range asLookedAt(tree, unit) {
			if code := nodeFaultWanted(tree, parents, k); code != impl.OK {
				return impl.Fault{Code: code, Node: k}
			}
		}
	}
	return impl.Fault{}
}

// slotsWanted: there are never more names than where a function begins, or behind a let, or in a second block of a try.
func slotsWanted(tree impl.Tree, unit int) int {
	most := len(beginsWanted(tree, unit))
	parents := parentsOf(tree)
	for _, k := range asLookedAt(tree, unit) {
		if kind := tree.Nodes[k].Kind; kind == impl.NoLet || kind == impl.NoTry {
			known, _ := knownWanted(tree, parents, k)
			most = max(most, len(known)+1)
		}
	}
	return most
}

func namesOf(tree impl.Tree, nodes []int) []string {
	var names []string
	for _, k := range nodes {
		names = append(names, tree.Nodes[k].Text)
	}
	return names
}

func callsWanted(tree impl.Tree, k int) []string {
	functions := namesOf(tree, funcsWanted(tree))
	var calls []string
	var walk func(k int)
	walk = func(k int) {
		n := tree.Nodes[k]
		for _, kid := range n.Kids {
			if tree.Nodes[kid].Kind != impl.NoFunc {
				walk(kid)
			}
		}
		if n.Kind == impl.NoCall && slices.Contains(functions, n.Text) {
			calls = append(calls, n.Text)
		}
	}
	walk(k)
	var once []string
	for i, name := range calls {
		if !slices.Contains(calls[:i], name) {
			once = append(once, name)
		}
	}
	return once
}

// comesWanted has all pairs of functions that calls lead from and to. Of functions of one name the first one counts.
func comesWanted(tree impl.Tree) map[[2]string]bool {
	pairs := map[[2]string]bool{}
	functions := funcsWanted(tree)
	names := namesOf(tree, functions)
	for i, f := range functions {
		for _, to := range callsWanted(tree, f) {
			if slices.Index(names, names[i]) == i {
				pairs[[2]string{names[i], to}] = true
			}
		}
	}
	for _, through := range names {
		for _, from := range names {
			for _, to := range names {
				if pairs[[2]string{from, through}] && pairs[[2]string{through, to}] {
					pairs[[2]string{from, to}] = true
				}
			}
		}
	}
	return pairs
}

func wantNames(t *testing.T, what string, tree impl.Tree, k int, got []string, code int, want []string, wantCode int) {
	t.Helper()
	if !slices.Equal(got, want) || code != wantCode {
		t.Errorf("%s of %s, %d = %.80q, %d; want %.80q, %d", what, briefTree(tree), k, got, code, want, wantCode)
	}
}

func wantFault(t *testing.T, tree impl.Tree, want impl.Fault, wantCode int) {
	t.Helper()
	if got, code := impl.CheckNames(tree); got != want || code != wantCode {
		t.Errorf("CheckNames of %q, %s = %v, %d; want %v, %d", sourceOf(tree), briefTree(tree), got, code, want, wantCode)
	}
}

func wantComes(t *testing.T, tree impl.Tree, from, to string, want bool, wantCode int) {
	t.Helper()
	if got, code := impl.Comes(tree, from, to); got != want || code != wantCode {
		t.Errorf("Comes of %q, %.40q, %.40q = %v, %d; want %v, %d", sourceOf(tree), from, to, got, code, want, wantCode)
	}
}

func sourceOf(tree impl.Tree) string {
	text, _ := impl.TreeText(tree)
	return text
}

// noNames are texts that no function and no NoName of a right tree has.
func noNames() []string {
	return []string{"", " ", "let", "1", "a b", "f(", "\xff", "a\x00", "nosuch", strings.Repeat("n", 21), strings.Repeat("n", 41), strings.Repeat("n", impl.MaxText)}
}

// tooLong are texts that are ErrLong, ahead of all else.
func tooLong() []string {
	return []string{strings.Repeat("n", impl.MaxText+1), strings.Repeat("\x00", 2*impl.MaxText)}
}

// somePlaces has all places of a small tree; of a greater one all functions, the Root, and some others.
func somePlaces(tree impl.Tree) []int {
	places := append(funcsWanted(tree), tree.Root)
	for k := 0; k < len(tree.Nodes); k += 1 + len(tree.Nodes)/25 {
		places = append(places, k)
	}
	return places
}

// wantNameAnswers holds all calls of chapter 5 on a right tree against what is reckoned here.
func wantNameAnswers(t *testing.T, tree impl.Tree) {
	t.Helper()
	fault := faultWanted(tree)
	wantFault(t, tree, fault, impl.OK)
	functions := funcsWanted(tree)
	names := namesOf(tree, functions)
	got, code := impl.FuncsOf(tree)
	wantNames(t, "FuncsOf", tree, 0, got, code, names, impl.OK)
	for _, k := range somePlaces(tree) {
		got, code := impl.CallsOf(tree, k)
		wantNames(t, "CallsOf", tree, k, got, code, callsWanted(tree, k), impl.OK)
		slots, slotsCode := impl.SlotsOf(tree, k)
		got, code = impl.ScopeAt(tree, k)
		switch {
		case k != tree.Root && !slices.Contains(functions, k):
			wantNumber(t, "SlotsOf", tree, k, slots, slotsCode, 0, impl.ErrPlace)
			wantNames(t, "ScopeAt", tree, k, got, code, nil, impl.ErrPlace)
			continue
		case fault.Code != impl.OK:
			wantNumber(t, "SlotsOf", tree, k, slots, slotsCode, 0, impl.ErrName)
		default:
			wantNumber(t, "SlotsOf", tree, k, slots, slotsCode, slotsWanted(tree, k), impl.OK)
		}
		wantNames(t, "ScopeAt", tree, k, got, code, beginsWanted(tree, k), impl.OK)
	}
	wantUses(t, tree)
	pairs := comesWanted(tree)
	for _, from := range names {
		for _, to := range names {
			wantComes(t, tree, from, to, pairs[[2]string{from, to}], impl.OK)
		}
	}
}

func wantUses(t *testing.T, tree impl.Tree) {
	t.Helper()
	uses := map[string]int{}
	for _, n := range tree.Nodes {
		switch n.Kind {
		case impl.NoName, impl.NoSet:
			uses[n.Text]++
		default:
			uses[n.Text] += 0
		}
		for _, name := range n.Names[:min(len(n.Names), 9)] {
			uses[name] += 0
		}
	}
	for name, want := range uses {
		got, code := impl.UsesOf(tree, name)
		wantNumber(t, fmt.Sprintf("UsesOf %q", name), tree, 0, got, code, want, impl.OK)
	}
}

// wantBadNames: of a tree that is not right each call answers ErrBad, whatever else it is given, unless that is too long.
func wantBadNames(t *testing.T, tree impl.Tree) {
	t.Helper()
	if got, code := impl.CheckNames(tree); got != (impl.Fault{}) || code != impl.ErrBad {
		t.Errorf("CheckNames of %s = %v, %d; want none, ErrBad", briefTree(tree), got, code)
	}
	got, code := impl.FuncsOf(tree)
	wantNames(t, "FuncsOf", tree, 0, got, code, nil, impl.ErrBad)
	for _, k := range append(otherPlaces(len(tree.Nodes)), 0, 1, tree.Root) {
		slots, code := impl.SlotsOf(tree, k)
		wantNumber(t, "SlotsOf", tree, k, slots, code, 0, impl.ErrBad)
		got, code := impl.ScopeAt(tree, k)
		wantNames(t, "ScopeAt", tree, k, got, code, nil, impl.ErrBad)
		got, code = impl.CallsOf(tree, k)
		wantNames(t, "CallsOf", tree, k, got, code, nil, impl.ErrBad)
	}
	for _, name := range []string{"", "a", "f", "path", "nosuch", "\xff"} {
		uses, code := impl.UsesOf(tree, name)
		wantNumber(t, "UsesOf", tree, 0, uses, code, 0, impl.ErrBad)
		for _, to := range []string{name, "f", ""} {
			if got, code := impl.Comes(tree, name, to); got || code != impl.ErrBad {
				t.Errorf("Comes of %s, %q, %q = %v, %d; want false, ErrBad", briefTree(tree), name, to, got, code)
			}
		}
	}
}
