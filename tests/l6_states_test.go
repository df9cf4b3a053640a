package tests

import (
	"math"
	"math/rand"
	"slices"
	"strconv"
	"testing"

	"loop.example/buildroads/impl"
)

// allWays are the four ways.
func allWays() []int {
	return []int{impl.WayDirty, impl.WayVerify, impl.WayStore, impl.WayDeep}
}

// noWays are numbers that are no ways.
func noWays() []int {
	return []int{-1, 4, -2, 5, 10, 96, -4, math.MaxInt, math.MinInt}
}

// state returns a state; the keys of a list were built.
func state(values []int, built []int, inputs []int, traces ...impl.Trace) impl.State {
	st := impl.State{Values: values, Built: make([]bool, len(values)), Inputs: inputs, Traces: traces}
	for _, key := range built {
		st.Built[key] = true
	}
	return st
}

// sameState compares two states; lists that are nil and empty ones are the same.
func sameState(a, b impl.State) bool {
	return slices.Equal(a.Values, b.Values) && slices.Equal(a.Built, b.Built) && slices.Equal(a.Inputs, b.Inputs) && sameTraces(a.Traces, b.Traces)
}

// copyState returns a state that shares no memory with st.
func copyState(st impl.State) impl.State {
	return impl.State{Values: slices.Clone(st.Values), Built: slices.Clone(st.Built), Inputs: slices.Clone(st.Inputs), Traces: copyTraces(st.Traces)}
}

// isNoState reports whether all of a state is empty.
func isNoState(st impl.State) bool {
	return len(st.Values) == 0 && len(st.Built) == 0 && len(st.Inputs) == 0 && len(st.Traces) == 0
}

// overwriteState writes over all memory of a state.
func overwriteState(st impl.State) {
	overwrite(st.Values)
	overwrite(st.Inputs)
	overwriteTraces(st.Traces)
	built := st.Built[:cap(st.Built)]
	for i := range built {
		built[i] = !built[i]
	}
}

func TestConstantsOfWays(t *testing.T) {
	if !slices.Equal(allWays(), []int{0, 1, 2, 3}) {
		t.Errorf("the ways are %v", allWays())
	}
}

func TestStateStart(t *testing.T) {
	for _, texts := range [][]string{nil, {"-"}, {"0"}, {"7"}, {"k0"}, {"-", "k0"}, {"k1", "k0"}, {"-", "(+ k0 k0)", "(? k0 k1 k2)", "7"}, slices.Repeat([]string{"-"}, 10), slices.Repeat([]string{"96"}, 10)} {
		s, n := sheet(texts...), len(texts)
		want := impl.State{Values: make([]int, n), Built: make([]bool, n), Inputs: make([]int, n)}
		st, ok := impl.StateStart(s)
		if !ok || !sameState(st, want) {
			t.Errorf("StateStart of %q is %v, %v", texts, st, ok)
		}
		if !impl.StateOk(s, st) {
			t.Errorf("StateOk of %q at first is false", texts)
		}
	}
}

// stateCase is a state, whether it is ok, and the ways that it fits.
type stateCase struct {
	name  string
	texts []string
	state impl.State
	ok    bool
	ways  []int
}

// plainSheet has an input 0, what is twice it, a choice of both, a number, and a product with a key that is not there.
func plainSheet() []string {
	return []string{"-", "(+ k0 k0)", "(? k0 k1 k2)", "7", "(* k1 k9)"}
}

// keptCases are about values, truths and inputs.
func keptCases() []stateCase {
	two, all := []string{"-", "(+ k0 1)"}, allWays()
	return []stateCase{
		{"no keys", nil, impl.State{}, true, all},
		{"no keys, empty lists", nil, impl.State{Values: []int{}, Built: []bool{}, Inputs: []int{}, Traces: []impl.Trace{}}, true, all},
		{"no keys, but a value", nil, impl.State{Values: []int{0}}, false, nil},
		{"no keys, but a truth", nil, impl.State{Built: []bool{false}}, false, nil},
		{"no keys, but an input", nil, impl.State{Inputs: []int{0}}, false, nil},
		{"no keys, but a trace", nil, impl.State{Traces: []impl.Trace{{}}}, false, nil},
		{"at first", two, state([]int{0, 0}, nil, []int{0, 0}), true, all},
		{"an input that is its own value", two, state([]int{5, 0}, nil, []int{5, 0}), true, all},
		{"an input of 96", two, state([]int{96, 0}, nil, []int{96, 0}), true, all},
		{"an input that is less than its value", two, state([]int{5, 0}, nil, []int{4, 0}), false, nil},
		{"an input that is more than its value", two, state([]int{4, 0}, nil, []int{5, 0}), false, nil},
		{"an input without its value", two, state([]int{0, 0}, nil, []int{5, 0}), false, nil},
		{"an input of 0 with a value", two, state([]int{5, 0}, nil, []int{0, 0}), false, nil},
		{"an input that is built", two, state([]int{5, 0}, []int{0}, []int{5, 0}), false, nil},
		{"an input that is built, and 0", two, state([]int{0, 0}, []int{0}, []int{0, 0}), false, nil},
		{"an input that is built, beside a made key", two, state([]int{5, 6}, []int{0, 1}, []int{5, 0}), false, nil},
		{"the input of a made key is its value", two, state([]int{5, 6}, []int{1}, []int{5, 6}), false, nil},
		{"the input of a made key that was not built", two, state([]int{5, 0}, nil, []int{5, 1}), false, nil},
		{"the input of a made key of 96", two, state([]int{5, 96}, nil, []int{5, 96}), false, nil},
		{"a made key with a value that was not built", two, state([]int{5, 96}, nil, []int{5, 0}), true, all},
		{"a made key that was built", two, state([]int{5, 6}, []int{1}, []int{5, 0}), true, []int{0, 2, 3}},
		{"a made key that was built, with another value", two, state([]int{5, 7}, []int{1}, []int{5, 0}), true, []int{2, 3}},
		{"a made key that was built, with that of other inputs", two, state([]int{5, 1}, []int{1}, []int{5, 0}), true, []int{2, 3}},
		{"all inputs", []string{"-", "-", "-"}, state([]int{1, 96, 3}, nil, []int{1, 96, 3}), true, all},
		{"all inputs, the first one differs", []string{"-", "-", "-"}, state([]int{1, 96, 3}, nil, []int{2, 96, 3}), false, nil},
		{"all inputs, the last one differs", []string{"-", "-", "-"}, state([]int{1, 96, 3}, nil, []int{1, 96, 2}), false, nil},
		{"all inputs, the last one is built", []string{"-", "-", "-"}, state([]int{1, 96, 3}, []int{2}, []int{1, 96, 3}), false, nil},
		{"all made", []string{"7", "8"}, state([]int{7, 8}, []int{0, 1}, []int{0, 0}), true, []int{0, 2, 3}},
		{"all made, one has an input", []string{"7", "8"}, state([]int{7, 8}, []int{0, 1}, []int{0, 8}), false, nil},
		{"all made, one was built", []string{"7", "8"}, state([]int{9, 8}, []int{1}, []int{0, 0}), true, []int{0, 2, 3}},
		{"all made, the other one was built", []string{"7", "8"}, state([]int{9, 8}, []int{0}, []int{0, 0}), true, []int{2, 3}},
	}
}

// tracedCases are about traces, by ways that take those that are honest.
func tracedCases() []stateCase {
	given, store := plainSheet(), []int{2}
	none := state([]int{9, 0, 0, 0, 0}, nil, []int{9, 0, 0, 0, 0})
	with := func(list ...impl.Trace) impl.State {
		st := copyState(none)
		st.Traces = list
		return st
	}
	eighteen, seven := trace(1, pairs{{0, 9}}, 18), trace(3, nil, 7)
	eight := []string{"-", "(+ k0 8)"}
	return []stateCase{
		{"no traces", given, none, true, allWays()},
		{"a trace", given, with(eighteen), true, []int{2, 3}},
		{"a trace of other inputs", given, with(trace(1, pairs{{0, 96}}, 95)), true, []int{2, 3}},
		{"a trace that used nothing", given, with(seven), true, []int{2, 3}},
		{"a trace of an input", given, with(trace(0, nil, 0)), false, nil},
		{"a trace of an input, with its value", given, with(trace(0, pairs{{0, 9}}, 9)), false, nil},
		{"a trace of an input behind others", given, with(eighteen, seven, trace(0, nil, 9)), false, nil},
		{"a trace of a key behind the last", given, with(trace(5, nil, 0)), false, nil},
		{"a trace of the last key of all, which is not there", given, with(seven, trace(9, nil, 0)), false, nil},
		{"a trace of no key", given, with(trace(10, nil, 0)), false, nil},
		{"a trace of no key below all", given, with(trace(-1, nil, 0)), false, nil},
		{"a trace with no value", given, with(trace(3, nil, 97)), false, nil},
		{"a trace that used no key", given, with(trace(3, pairs{{10, 0}}, 7)), false, nil},
		{"a trace that used no value", given, with(trace(1, pairs{{0, 97}}, 0)), false, nil},
		{"a trace that used a key twice", given, with(trace(1, pairs{{0, 9}, {0, 9}}, 18)), false, nil},
		{"a trace that used a key beyond the sheet", given, with(trace(4, pairs{{1, 6}, {9, 0}}, 0)), true, store},
		{"a trace that used a key beyond the sheet with another value", given, with(trace(4, pairs{{1, 2}, {9, 5}}, 10)), true, store},
		{"a trace that used a key beyond the sheet, not honest", given, with(trace(4, pairs{{1, 2}, {9, 5}}, 11)), true, nil},
		{"a trace that is not honest: another value", given, with(trace(1, pairs{{0, 9}}, 17)), true, nil},
		{"a trace that is not honest: used more", given, with(trace(3, pairs{{1, 0}}, 7)), true, nil},
		{"a trace that is not honest: another order", given, with(trace(2, pairs{{1, 5}, {0, 1}}, 5)), true, nil},
		{"one of three is not honest", given, with(seven, trace(3, nil, 8), eighteen), true, nil},
		{"the last one of three is not honest", given, with(seven, eighteen, trace(3, nil, 8)), true, nil},
		{"a trace that used a made key", given, with(trace(2, pairs{{0, 1}, {1, 5}}, 5)), true, store},
		{"a trace that used its own key", given, with(trace(2, pairs{{0, 0}, {2, 6}}, 6)), true, store},
		{"the same one twice", given, with(seven, seven), true, []int{2, 3}},
		{"sixty", given, with(slices.Repeat([]impl.Trace{seven}, 60)...), true, []int{2, 3}},
		{"sixty-one", given, with(slices.Repeat([]impl.Trace{seven}, 61)...), false, nil},
		{"built, with another value than its trace", eight, state([]int{1, 40}, []int{1}, []int{1, 0}, trace(1, pairs{{0, 1}}, 9)), true, []int{2, 3}},
		{"built, with a trace of another key alone", []string{"7", "8"}, state([]int{7, 8}, []int{0}, []int{0, 0}, trace(1, nil, 8)), true, []int{2, 3}},
	}
}

// dirtyCases are about the values of keys that were built by WayDirty.
func dirtyCases() []stateCase {
	chain, rest := []string{"-", "(+ k0 1)", "(* k1 k1)"}, []int{2, 3}
	some := []int{0, 2, 3}
	either := []string{"(? k2 7 k1)", "(? k2 k0 8)", "-"} // not safe, but no build fails
	return []stateCase{
		{"all of a chain", chain, state([]int{4, 5, 25}, []int{1, 2}, []int{4, 0, 0}), true, some},
		{"the first one of a chain", chain, state([]int{4, 5, 0}, []int{1}, []int{4, 0, 0}), true, some},
		{"the last one of a chain alone", chain, state([]int{4, 0, 25}, []int{2}, []int{4, 0, 0}), true, some},
		{"the last one of a chain by what is kept of the first", chain, state([]int{4, 6, 36}, []int{2}, []int{4, 0, 0}), true, rest},
		{"the first one of a chain is wrong", chain, state([]int{4, 6, 25}, []int{1, 2}, []int{4, 0, 0}), true, rest},
		{"the last one of a chain is wrong", chain, state([]int{4, 5, 24}, []int{1, 2}, []int{4, 0, 0}), true, rest},
		{"the last one of a chain is wrong, but was not built", chain, state([]int{4, 5, 24}, []int{1}, []int{4, 0, 0}), true, some},
		{"with a trace, though it is right", chain, state([]int{4, 5, 25}, []int{1, 2}, []int{4, 0, 0}, trace(1, pairs{{0, 4}}, 5)), true, rest},
		{"nothing built, with a trace", chain, state([]int{4, 0, 0}, nil, []int{4, 0, 0}, trace(1, pairs{{0, 4}}, 5)), true, rest},
		{"a key beyond the sheet", []string{"(+ k5 3)"}, state([]int{3}, []int{0}, []int{0}), true, some},
		{"a key beyond the sheet, another value", []string{"(+ k5 3)"}, state([]int{4}, []int{0}, []int{0}), true, rest},
		{"not safe, as BuildKey tells", either, state([]int{7, 7, 1}, []int{0, 1}, []int{0, 0, 1}), true, some},
		{"not safe, otherwise than BuildKey tells", either, state([]int{9, 8, 1}, []int{0, 1}, []int{0, 0, 1}), true, some},
		{"not safe, built though it fails", []string{"k0"}, state([]int{9}, []int{0}, []int{0}), true, some},
		{"not safe, a key that has nothing to do with it", []string{"k0", "7"}, state([]int{9, 8}, []int{1}, []int{0, 0}), true, some},
		{"not safe, with a trace", []string{"k0"}, state([]int{9}, []int{0}, []int{0}, trace(0, pairs{{0, 9}}, 9)), true, []int{1, 2}},
	}
}

// verifyCases are about the traces of keys that were built by WayVerify.
func verifyCases() []stateCase {
	chain := []string{"-", "(+ k0 1)", "(* k1 k1)"}
	five, six, square := trace(1, pairs{{0, 4}}, 5), trace(1, pairs{{0, 5}}, 6), trace(2, pairs{{1, 5}}, 25)
	built := func(values []int, keys []int, list ...impl.Trace) impl.State {
		return state(values, keys, []int{4, 0, 0}, list...)
	}
	both, store := []int{1, 2}, []int{2}
	return []stateCase{
		{"a trace of each", chain, built([]int{4, 5, 25}, []int{1, 2}, five, square), true, both},
		{"a trace of each, in another order", chain, built([]int{4, 5, 25}, []int{1, 2}, square, five), true, both},
		{"a trace that does not hold", chain, built([]int{4, 6, 25}, []int{1, 2}, six, square), true, both},
		{"all traces do not hold", chain, built([]int{4, 6, 49}, []int{1, 2}, six, trace(2, pairs{{1, 7}}, 49)), true, both},
		{"no trace", chain, built([]int{4, 5, 25}, []int{1, 2}), true, []int{0, 2, 3}},
		{"no trace of the last", chain, built([]int{4, 5, 25}, []int{1, 2}, five), true, []int{2, 3}},
		{"no trace of the first", chain, built([]int{4, 5, 25}, []int{1, 2}, square), true, store},
		{"two traces of the first, none of the last", chain, built([]int{4, 5, 25}, []int{1, 2}, five, five), true, []int{2, 3}},
		{"two traces of one key", chain, built([]int{4, 5, 25}, []int{1, 2}, five, square, six), true, store},
		{"the same trace of one key twice", chain, built([]int{4, 5, 25}, []int{1, 2}, five, square, five), true, store},
		{"a trace of a key that was not built", chain, built([]int{4, 5, 25}, []int{1}, five, square), true, store},
		{"a trace of a key that was not built, alone", chain, built([]int{4, 5, 25}, nil, square), true, store},
		{"another value than that of its trace", chain, built([]int{4, 5, 24}, []int{1, 2}, five, square), true, store},
		{"another value than that of its trace, as BuildKey tells", chain, built([]int{4, 5, 25}, []int{1, 2}, six, square), true, store},
		{"another value of a key that was not built", chain, built([]int{4, 5, 24}, []int{1}, five), true, []int{1, 2, 3}},
		{"a trace that is not honest", chain, built([]int{4, 5, 24}, []int{1, 2}, five, trace(2, pairs{{1, 5}}, 24)), true, nil},
		{"a trace that used a key beyond the sheet", []string{"(* 2 k9)"}, state([]int{6}, []int{0}, []int{0}, trace(0, pairs{{9, 3}}, 6)), true, both},
		{"not safe", []string{"k1", "k0"}, state([]int{6, 7}, []int{0, 1}, []int{0, 0}, trace(0, pairs{{1, 6}}, 6), trace(1, pairs{{0, 7}}, 7)), true, both},
		{"not safe, another value", []string{"k1", "k0"}, state([]int{6, 8}, []int{0, 1}, []int{0, 0}, trace(0, pairs{{1, 6}}, 6), trace(1, pairs{{0, 7}}, 7)), true, store},
	}
}

// deepCases are about traces by inputs.
func deepCases() []stateCase {
	given := []string{"-", "(+ k0 1)", "(+ k1 (+ k3 k9))", "-"}
	with := func(list ...impl.Trace) impl.State { return state([]int{4, 0, 0, 3}, nil, []int{4, 0, 0, 3}, list...) }
	deep, store, both := []int{3}, []int{2}, []int{2, 3}
	eight := trace(2, pairs{{0, 4}, {3, 3}, {9, 0}}, 8)
	return []stateCase{
		{"inputs of what a key fetched", given, with(eight), true, deep},
		{"inputs in another order", given, with(trace(2, pairs{{3, 3}, {0, 4}, {9, 0}}, 8)), true, deep},
		{"inputs that are not these of the last build", given, with(trace(2, pairs{{0, 96}, {3, 2}, {9, 0}}, 2)), true, deep},
		{"without the key beyond the sheet", given, with(trace(2, pairs{{0, 4}, {3, 3}}, 8)), true, deep},
		{"with another key beyond the sheet", given, with(trace(2, pairs{{0, 4}, {3, 3}, {4, 0}}, 8)), true, deep},
		{"another value", given, with(trace(2, pairs{{0, 4}, {3, 3}, {9, 0}}, 9)), true, nil},
		{"a key beyond the sheet with another value than 0", given, with(trace(2, pairs{{0, 4}, {3, 3}, {9, 1}}, 9)), true, nil},
		{"a key beyond the sheet with another value than 0, the value with 0", given, with(trace(2, pairs{{0, 4}, {3, 3}, {9, 1}}, 8)), true, nil},
		{"a key beyond the sheet that is not fetched, with another value than 0", given, with(trace(1, pairs{{0, 4}, {8, 1}}, 5)), true, nil},
		{"a made key", given, with(trace(2, pairs{{1, 5}, {3, 3}, {9, 0}}, 8)), true, store},
		{"a made key that had 0", given, with(trace(2, pairs{{1, 0}, {3, 1}, {9, 0}}, 1)), true, store},
		{"a made key beside inputs", given, with(trace(2, pairs{{0, 4}, {3, 3}, {9, 0}, {1, 5}}, 8)), true, nil},
		{"its own key", given, with(trace(1, pairs{{0, 4}, {1, 0}}, 5)), true, nil},
		{"an input that had 0", given, with(trace(2, pairs{{0, 0}, {3, 3}, {9, 0}}, 4)), true, deep},
		{"an input that is left out counts as 0", given, with(trace(2, pairs{{3, 3}}, 4)), true, deep},
		{"an input that is left out, its value in the last build", given, with(trace(2, pairs{{3, 3}}, 8)), true, nil},
		{"a key that fetches inputs alone", given, with(trace(1, pairs{{0, 4}}, 5)), true, both},
		{"many", given, with(eight, trace(1, pairs{{0, 4}}, 5), trace(1, pairs{{0, 5}}, 6), eight), true, deep},
		{"the last one of many", given, with(eight, trace(1, pairs{{0, 4}}, 5), trace(1, pairs{{0, 5}}, 7)), true, nil},
		{"the first one of many", given, with(trace(1, pairs{{0, 5}}, 7), eight, trace(1, pairs{{0, 4}}, 5)), true, nil},
		{"built, with another value than its trace", given, state([]int{4, 50, 60, 3}, []int{1, 2}, []int{4, 0, 0, 3}, eight), true, deep},
		{"not safe, nothing built", []string{"k0"}, state([]int{0}, nil, []int{0}), true, allWays()},
		{"not safe, a key that fails", []string{"k0"}, state([]int{0}, nil, []int{0}, trace(0, nil, 0)), true, nil},
		{"not safe, a key that does not fail", []string{"k0", "7"}, state([]int{0, 0}, nil, []int{0, 0}, trace(1, nil, 7)), true, both},
	}
}

func stateCases() []stateCase {
	return slices.Concat(keptCases(), tracedCases(), dirtyCases(), verifyCases(), deepCases())
}

func TestStateCases(t *testing.T) {
	for _, c := range stateCases() {
		s := sheet(c.texts...)
		if got := impl.StateOk(s, c.state); got != c.ok {
			t.Errorf("%s: StateOk of %v is %v", c.name, c.state, got)
		}
		for _, way := range allWays() {
			if got := impl.StateFits(s, way, c.state); got != slices.Contains(c.ways, way) {
				t.Errorf("%s: StateFits of %v by the way %d is %v", c.name, c.state, way, got)
			}
		}
	}
}

// What is no way is fitted by no state, not even by that at first.
func TestNoWays(t *testing.T) {
	for _, c := range stateCases() {
		for _, way := range noWays() {
			if impl.StateFits(sheet(c.texts...), way, c.state) {
				t.Errorf("%s: StateFits by %d is true", c.name, way)
			}
		}
	}
}

// fitsNothing reports what is told of a state that is not ok.
func fitsNothing(t *testing.T, name string, s impl.Sheet, st impl.State) {
	t.Helper()
	if impl.StateOk(s, st) {
		t.Errorf("%s: StateOk is true", name)
	}
	for way := -1; way <= 4; way++ {
		if impl.StateFits(s, way, st) {
			t.Errorf("%s: StateFits by %d is true", name, way)
		}
	}
}

func TestStatesOfBadSheets(t *testing.T) {
	for i, s := range badSheets() {
		name := "bad sheet " + strconv.Itoa(i)
		if st, ok := impl.StateStart(s); ok || !isNoState(st) {
			t.Errorf("%s: StateStart is %.12v, %v", name, st.Values, ok)
		}
		for _, keys := range []int{0, 1, 2, len(s.Made), len(s.Tasks)} {
			fitsNothing(t, name, s, impl.State{Values: make([]int, keys), Built: make([]bool, keys), Inputs: make([]int, keys)})
		}
	}
}

// As many values, truths and inputs as keys are to be there; one more or one less is too much or too little, each alone or all together.
func TestLengthsOfStates(t *testing.T) {
	for _, texts := range [][]string{nil, {"-"}, {"7"}, {"-", "k0"}, {"k1", "-"}, slices.Repeat([]string{"-"}, 10), slices.Repeat([]string{"7"}, 10)} {
		s, n := sheet(texts...), len(texts)
		for _, v := range []int{0, n - 1, n, n + 1, n + 2, 1000} {
			for _, b := range []int{0, n - 1, n, n + 1, n + 2, 1000} {
				for _, i := range []int{0, n - 1, n, n + 1, n + 2, 1000} {
					st := impl.State{Values: make([]int, max(v, 0)), Built: make([]bool, max(b, 0)), Inputs: make([]int, max(i, 0))}
					if max(v, 0) != n || max(b, 0) != n || max(i, 0) != n {
						fitsNothing(t, strconv.Quote(impl.SheetText(s))+" and another length", s, st)
					} else if !impl.StateOk(s, st) {
						t.Errorf("StateOk of %q is false", impl.SheetText(s))
					}
				}
			}
		}
	}
}

// Values from 0 to 96 are ones, of keys and of inputs; -1 and 97 are none.
func TestLimitsOfStates(t *testing.T) {
	s := sheet("-", "(+ k0 1)", "-")
	numbers := []int{1000, -1000, math.MaxInt, math.MinInt}
	for n := -200; n <= 200; n++ {
		numbers = append(numbers, n)
	}
	for _, n := range numbers {
		value := n >= 0 && n <= 96
		for _, c := range []struct {
			name  string
			state impl.State
			want  bool
		}{
			{"an input and its value", state([]int{n, 0, 0}, nil, []int{n, 0, 0}), value},
			{"the last input and its value", state([]int{0, 0, n}, nil, []int{0, 0, n}), value},
			{"the value of an input", state([]int{n, 0, 0}, nil, []int{0, 0, 0}), n == 0},
			{"an input", state([]int{0, 0, 0}, nil, []int{0, 0, n}), n == 0},
			{"the value of a made key", state([]int{0, n, 0}, nil, []int{0, 0, 0}), value},
			{"the value of a made key that was built", state([]int{0, n, 0}, []int{1}, []int{0, 0, 0}), value},
			{"the input of a made key", state([]int{0, 0, 0}, nil, []int{0, n, 0}), n == 0},
			{"the input of a made key and its value", state([]int{0, n, 0}, []int{1}, []int{0, n, 0}), n == 0},
		} {
			if got := impl.StateOk(s, c.state); got != c.want {
				t.Errorf("%s, %d: StateOk is %v", c.name, n, got)
			}
			if !c.want {
				fitsNothing(t, c.name+", "+strconv.Itoa(n), s, c.state)
			}
		}
	}
}

// A state with a trace that is none is not ok, wherever that stands.
func TestStatesOfBadTraces(t *testing.T) {
	s := sheet("-", "k0", "-", "7", "(+ k1 6)")
	for i, x := range badTraces() {
		for j, list := range lists(x) {
			st, _ := impl.StateStart(s)
			st.Traces = list
			fitsNothing(t, "bad trace "+strconv.Itoa(i)+" in list "+strconv.Itoa(j), s, st)
		}
	}
}

// plainStateOk reports whether a state is ok for a sheet, which is one.
func plainStateOk(s impl.Sheet, st impl.State) bool {
	n := len(s.Made)
	if len(st.Values) != n || len(st.Built) != n || len(st.Inputs) != n || !impl.TracesOk(st.Traces) {
		return false
	}
	for key, made := range s.Made {
		v, in := st.Values[key], st.Inputs[key]
		if v < 0 || v > 96 || made && in != 0 || !made && (in != v || st.Built[key]) {
			return false
		}
	}
	return !slices.ContainsFunc(st.Traces, func(x impl.Trace) bool { return x.Key >= n || !s.Made[x.Key] })
}

// plainStateFits reports whether a state, which is ok, fits a way.
func plainStateFits(s impl.Sheet, way int, st impl.State) bool {
	switch way {
	case impl.WayDirty:
		values, _, _ := plainAll(s, st.Inputs)
		for key, built := range st.Built {
			if built && plainSafe(s) && values[key] != st.Values[key] {
				return false
			}
		}
		return len(st.Traces) == 0
	case impl.WayVerify:
		for key, built := range st.Built {
			var values []int
			for _, x := range st.Traces {
				if x.Key == key {
					values = append(values, x.Value)
				}
			}
			if built && !slices.Equal(values, st.Values[key:key+1]) || !built && len(values) > 0 {
				return false
			}
		}
	case impl.WayDeep:
		return !slices.ContainsFunc(st.Traces, func(x impl.Trace) bool { return !plainDeep(s, x) })
	}
	return plainHonest(s, st.Traces)
}

// plainDeep reports whether a trace uses no made key, and has the value that its key has with what it used.
func plainDeep(s impl.Sheet, x impl.Trace) bool {
	var inputs [10]int
	for _, f := range x.Used {
		if there := f.Key < len(s.Made); there && s.Made[f.Key] || !there && f.Value != 0 {
			return false
		}
		inputs[f.Key] = f.Value
	}
	value, circle := plainBuild(s, inputs[:], x.Key, nil)
	return circle == nil && value == x.Value
}

// inputsOf returns inputs of a sheet, with 0 for keys that are made.
func inputsOf(s impl.Sheet, inputs []int) []int {
	list := make([]int, len(s.Made))
	for key, made := range s.Made {
		if !made {
			list[key] = inputs[key]
		}
	}
	return list
}

// deepTraces makes traces by inputs, some of which used more than their key fetches.
func deepTraces(r *rand.Rand, s impl.Sheet) []impl.Trace {
	var list []impl.Trace
	for key, made := range s.Made {
		for range r.Intn(4) {
			inputs := randomInputs(r, s)
			x := impl.Trace{Key: key}
			for _, used := range r.Perm(10)[:r.Intn(11)] {
				if used >= len(s.Made) {
					x.Used = append(x.Used, impl.Fetch{Key: used})
				} else if !s.Made[used] {
					x.Used = append(x.Used, impl.Fetch{Key: used, Value: inputs[used]})
				}
			}
			var with [10]int
			for _, f := range x.Used {
				with[f.Key] = f.Value
			}
			value, circle := plainBuild(s, with[:], key, nil)
			if x.Value = value; made && circle == nil && len(list) < 60 {
				list = append(list, x)
			}
		}
	}
	return list
}

// fittingState makes a state that fits a way: as builds may leave it, or not.
func fittingState(r *rand.Rand, s impl.Sheet, way int) impl.State {
	inputs := inputsOf(s, randomInputs(r, s))
	st := impl.State{Values: slices.Clone(inputs), Built: make([]bool, len(inputs)), Inputs: inputs}
	values, _, ok := plainAll(s, inputs)
	safe := plainSafe(s)
	for _, key := range r.Perm(len(inputs)) {
		if !s.Made[key] {
			continue
		}
		st.Built[key] = r.Intn(3) > 0
		st.Values[key] = r.Intn(97) * r.Intn(2)
		if way == impl.WayDirty && st.Built[key] && safe {
			st.Values[key] = values[key]
		}
		if way == impl.WayVerify && st.Built[key] {
			with := randomValues(r)
			if ok && r.Intn(2) == 0 {
				with = values
			}
			x := plainTrace(key, s.Tasks[key], with)
			st.Values[key], st.Traces = x.Value, append(st.Traces, x)
		}
	}
	switch way {
	case impl.WayStore:
		st.Traces = honestTraces(r, s)
	case impl.WayDeep:
		st.Traces = deepTraces(r, s)
	}
	return st
}

// spoilState returns a state that differs from st at one place, and may be ok, and fit, or not.
func spoilState(r *rand.Rand, st impl.State) impl.State {
	st = copyState(st)
	n := len(st.Values)
	if n == 0 {
		st.Values = make([]int, r.Intn(2))
		return st
	}
	key, number := r.Intn(n), r.Intn(99)-1
	switch r.Intn(9) {
	case 0:
		st.Values[key] = number
	case 1:
		st.Inputs[key] = number
	case 2:
		st.Built[key] = !st.Built[key]
	case 3:
		st.Values[key], st.Inputs[key] = number, number
	case 4:
		st.Traces = append(st.Traces, randomTrace(r))
	case 5:
		if len(st.Traces) > 0 {
			st.Traces = append(st.Traces, copyTraces(st.Traces[:1])...)
		}
	case 6:
		if len(st.Traces) > 0 {
			at := r.Intn(len(st.Traces))
			st.Traces = slices.Delete(st.Traces, at, at+1)
		}
	case 7:
		if len(st.Traces) > 0 {
			at := r.Intn(len(st.Traces))
			st.Traces[at] = spoilTrace(r, st.Traces[at])
		}
	case 8:
		st.Built = append(st.Built, false)[:n-1+2*r.Intn(2)]
	}
	return st
}

// eachState calls f with many sheets, ways, and states that fit them.
func eachState(f func(r *rand.Rand, s impl.Sheet, way int, st impl.State)) {
	r := rand.New(rand.NewSource(10))
	for range 2500 {
		s := randomSheet(r)
		for _, way := range allWays() {
			f(r, s, way, fittingState(r, s, way))
		}
	}
}

// Promise 28: StateFits holds of StateStart for each way.
func TestPromise28(t *testing.T) {
	safe, not := 0, 0
	eachSheet(func(s impl.Sheet, inputs []int) {
		if plainSafe(s) {
			safe++
		} else {
			not++
		}
		st, ok := impl.StateStart(s)
		if n := len(s.Made); !ok || !sameState(st, impl.State{Values: make([]int, n), Built: make([]bool, n), Inputs: make([]int, n)}) {
			t.Errorf("StateStart of %q is %v, %v", impl.SheetText(s), st, ok)
		}
		for _, way := range allWays() {
			if !impl.StateFits(s, way, st) {
				t.Errorf("StateFits of StateStart of %q by the way %d is false", impl.SheetText(s), way)
			}
		}
	})
	if safe < 1000 || not < 1000 {
		t.Errorf("%d sheets were safe, %d were not", safe, not)
	}
}

// Promise 29: StateOk holds if StateFits holds for some way.
func TestPromise29(t *testing.T) {
	var fitting [4]int
	wrong, misfit := 0, 0
	check := func(s impl.Sheet, st impl.State) {
		ok, fits := impl.StateOk(s, st), false
		if want := plainStateOk(s, st); ok != want {
			t.Errorf("StateOk of %v in %q is %v", st, impl.SheetText(s), ok)
		}
		for way := -1; way <= 4; way++ {
			got := impl.StateFits(s, way, st)
			if want := way >= 0 && way <= 3 && plainStateOk(s, st) && plainStateFits(s, way, st); got != want {
				t.Errorf("StateFits of %v in %q by the way %d is %v", st, impl.SheetText(s), way, got)
			}
			if got {
				fits = true
				fitting[way]++
			}
		}
		switch {
		case fits && !ok:
			t.Errorf("StateFits of %v in %q holds, but not StateOk", st, impl.SheetText(s))
		case !ok:
			wrong++
		case !fits:
			misfit++
		}
	}
	eachState(func(r *rand.Rand, s impl.Sheet, way int, st impl.State) {
		if !impl.StateFits(s, way, st) {
			t.Errorf("StateFits of %v in %q by the way %d is false", st, impl.SheetText(s), way)
		}
		check(s, st)
		for range 3 {
			check(s, spoilState(r, st))
		}
	})
	if slices.Min(fitting[:]) < 3000 || wrong < 3000 || misfit < 1000 {
		t.Errorf("%v states did fit each way, %d were not ok, %d were ok, but did fit none", fitting, wrong, misfit)
	}
}

// Promise 30: if StateFits holds, it holds behind a build of all keys with inputs of noughts, by the same way, if that is told.
func TestPromise30(t *testing.T) {
	var told, not, run [4]int
	check := func(r *rand.Rand, s impl.Sheet, way int, st impl.State) {
		if !impl.StateFits(s, way, st) {
			t.Errorf("StateFits of %v in %q by the way %d is false", st, impl.SheetText(s), way)
		}
		noughts, keys := make([]int, len(s.Made)), r.Perm(len(s.Made))
		behind, runs, ok := impl.BuildStep(s, way, st, noughts, keys)
		if _, want := plainStep(s, way, st, noughts, keys); ok != want {
			t.Errorf("BuildStep of %v in %q by the way %d from %v is told: %v", keys, impl.SheetText(s), way, st, ok)
		}
		if !ok {
			not[way]++
			return
		}
		told[way]++
		if len(runs) > 0 {
			run[way]++
		}
		if !impl.StateFits(s, way, behind) {
			t.Errorf("StateFits of %v in %q by the way %d, behind a build of %v from %v, is false", behind, impl.SheetText(s), way, keys, st)
		}
	}
	eachState(func(r *rand.Rand, s impl.Sheet, way int, st impl.State) {
		check(r, s, way, st)
		row, _ := impl.StateStart(s)
		for range 3 {
			keys := r.Perm(len(s.Made))
			next, _, ok := impl.BuildStep(s, way, row, randomInputs(r, s), keys[:r.Intn(len(keys)+1)])
			if !ok {
				break
			}
			row = next
			check(r, s, way, row)
		}
	})
	if slices.Min(told[:]) < 1000 || slices.Min(not[:]) < 300 || slices.Min(run[:]) < 1000 {
		t.Errorf("builds by each way: %v were told, %v were not, %v ran keys", told, not, run)
	}
}

// Arguments are not changed, not even behind the ends of their lists.
func TestStatesChangeNothing(t *testing.T) {
	eachState(func(r *rand.Rand, s impl.Sheet, way int, st impl.State) {
		values, built, inputs := append(slices.Clone(st.Values), 11), append(slices.Clone(st.Built), true), append(slices.Clone(st.Inputs), 12)
		space, n := spread(st.Traces), len(st.Values)
		kept, before := behindEnds(space), copySheet(s)
		short := impl.State{Values: values[:n], Built: built[:n], Inputs: inputs[:n], Traces: space[:len(st.Traces)]}
		impl.StateStart(s)
		impl.StateOk(s, short)
		for way := -1; way <= 4; way++ {
			impl.StateFits(s, way, short)
		}
		if !sameSheet(s, before) || !sameState(short, st) || values[n] != 11 || !built[n] || inputs[n] != 12 || !sameTraces(behindEnds(space), kept) {
			t.Errorf("%v in %q was changed", st, impl.SheetText(before))
		}
	})
}

// The lists of a state share no memory with the sheet, each other, or another result, not even behind their ends.
func TestStatesShareNothing(t *testing.T) {
	eachSheet(func(s impl.Sheet, inputs []int) {
		before := copySheet(s)
		want, _ := impl.StateStart(s)
		for i := range 4 {
			st, _ := impl.StateStart(s)
			all := copyState(st)
			part := []impl.State{{Values: st.Values}, {Built: st.Built}, {Inputs: st.Inputs}, {Traces: st.Traces}}[i]
			overwriteState(part)
			rest := []impl.State{{Built: st.Built, Inputs: st.Inputs}, {Values: st.Values, Inputs: st.Inputs}, {Values: st.Values, Built: st.Built}, st}[i]
			left := []impl.State{{Built: all.Built, Inputs: all.Inputs}, {Values: all.Values, Inputs: all.Inputs}, {Values: all.Values, Built: all.Built}, all}[i]
			if !sameState(rest, left) || !sameSheet(s, before) {
				t.Errorf("lists of StateStart of %q share memory", impl.SheetText(before))
			}
		}
		if next, _ := impl.StateStart(s); !sameState(next, want) {
			t.Errorf("results of StateStart of %q share memory", impl.SheetText(before))
		}
	})
}
