package tests

import (
	"math"
	"math/rand"
	"slices"
	"strconv"
	"testing"

	"loop.example/buildroads/impl"
)

// story is a row of builds by a way, from a state on (that at first, if it has no values), and the state behind the last one.
type story struct {
	name   string
	texts  []string
	way    int
	from   impl.State
	steps  []step
	behind impl.State
}

// step is a build of a story: what it is given, the keys that are run, and the values of its keys; refused stands for one that cannot be.
type step struct {
	inputs []int
	keys   []int
	runs   []int
	values []int
}

// refused is what is told of runs and values of a build that cannot be.
func refused() []int { return []int{noNumber} }

// two is a chain: a key that is one more than an input, and its square.
func two() []string { return []string{"-", "(+ k0 1)", "(* k1 k1)"} }

// nought is a key that is 0 whatever the input is, and one that fetches it alone.
func nought() []string { return []string{"-", "(* k0 0)", "(+ k1 1)"} }

// beside are two keys that fetch the same input.
func beside() []string { return []string{"-", "(+ k0 1)", "(+ k0 2)"} }

// over are two keys, one on the other.
func over() []string { return []string{"-", "(+ k0 1)", "(+ k1 1)"} }

// ring are two keys that fetch each other, unless an input has another value.
func ring() []string { return []string{"(? k2 7 k1)", "(? k2 k0 8)", "-"} }

func dirtyStories() []story {
	way := impl.WayDirty
	list := []story{
		{name: "from the state at first", texts: two(), steps: []step{{[]int{4, 0, 0}, []int{2}, []int{1, 2}, []int{25}}},
			behind: state([]int{4, 5, 25}, []int{1, 2}, []int{4, 0, 0})},
		{name: "the same inputs once more", texts: two(), steps: []step{{[]int{4, 0, 0}, []int{2}, []int{1, 2}, []int{25}}, {[]int{4, 0, 0}, []int{2, 1}, nil, []int{25, 5}}},
			behind: state([]int{4, 5, 25}, []int{1, 2}, []int{4, 0, 0})},
		{name: "turned, and turned back", texts: two(), steps: []step{{[]int{4, 0, 0}, []int{2}, []int{1, 2}, []int{25}}, {[]int{5, 0, 0}, []int{2}, []int{1, 2}, []int{36}}, {[]int{4, 0, 0}, []int{2}, []int{1, 2}, []int{25}}},
			behind: state([]int{4, 5, 25}, []int{1, 2}, []int{4, 0, 0})},
		{name: "by way of another key, which is as it was", texts: nought(), steps: []step{{[]int{3, 0, 0}, []int{2}, []int{1, 2}, []int{1}}, {[]int{4, 0, 0}, []int{2}, []int{1, 2}, []int{1}}},
			behind: state([]int{4, 0, 1}, []int{1, 2}, []int{4, 0, 0})},
		{name: "by way of two others", texts: []string{"(+ k2 1)", "-", "(* k3 2)", "(+ k1 0)", "k2"}, steps: []step{{[]int{0, 6, 0, 0, 0}, []int{4, 0}, []int{3, 2, 4, 0}, []int{12, 13}}, {[]int{0, 7, 0, 0, 0}, []int{0}, []int{3, 2, 0}, []int{15}}},
			behind: state([]int{15, 7, 14, 7, 12}, []int{0, 2, 3}, []int{0, 7, 0, 0, 0})},
		{name: "what may be fetched, but is not", texts: []string{"-", "-", "(? k0 k1 8)"}, steps: []step{{[]int{0, 1, 0}, []int{2}, []int{2}, []int{8}}, {[]int{0, 2, 0}, []int{2}, []int{2}, []int{8}}},
			behind: state([]int{0, 2, 8}, []int{2}, []int{0, 2, 0})},
		{name: "what is in a part that is never looked at", texts: []string{"-", "-", "(? 0 k1 k0)"}, steps: []step{{[]int{5, 1, 0}, []int{2}, []int{2}, []int{5}}, {[]int{5, 2, 0}, []int{2}, []int{2}, []int{5}}},
			behind: state([]int{5, 2, 5}, []int{2}, []int{5, 2, 0})},
		{name: "another input turned", texts: []string{"-", "-", "k0", "k1", "7"}, steps: []step{{[]int{1, 2, 0, 0, 0}, []int{2, 3, 4}, []int{2, 3, 4}, []int{1, 2, 7}}, {[]int{1, 5, 0, 0, 0}, []int{4, 3, 2}, []int{3}, []int{7, 5, 1}}},
			behind: state([]int{1, 5, 1, 5, 7}, []int{2, 3, 4}, []int{1, 5, 0, 0, 0})},
		{name: "not asked for last time", texts: beside(), steps: []step{{[]int{1, 0, 0}, []int{1, 2}, []int{1, 2}, []int{2, 3}}, {[]int{5, 0, 0}, []int{1}, []int{1}, []int{6}}, {[]int{5, 0, 0}, []int{2, 1}, []int{2}, []int{7, 6}}},
			behind: state([]int{5, 6, 7}, []int{1, 2}, []int{5, 0, 0})},
		{name: "not asked for last time, turned back", texts: beside(), steps: []step{{[]int{1, 0, 0}, []int{1, 2}, []int{1, 2}, []int{2, 3}}, {[]int{5, 0, 0}, []int{1}, []int{1}, []int{6}}, {[]int{1, 0, 0}, []int{2}, []int{2}, []int{3}}},
			behind: state([]int{1, 6, 3}, []int{2}, []int{1, 0, 0})},
		{name: "not asked for last time, and nothing turned", texts: beside(), steps: []step{{[]int{1, 0, 0}, []int{1, 2}, []int{1, 2}, []int{2, 3}}, {[]int{1, 0, 0}, []int{1}, nil, []int{2}}, {[]int{1, 0, 0}, []int{2}, nil, []int{3}}},
			behind: state([]int{1, 2, 3}, []int{1, 2}, []int{1, 0, 0})},
		{name: "never asked for", texts: beside(), steps: []step{{[]int{1, 0, 0}, []int{1}, []int{1}, []int{2}}, {[]int{1, 0, 0}, []int{2}, []int{2}, []int{3}}},
			behind: state([]int{1, 2, 3}, []int{1, 2}, []int{1, 0, 0})},
		{name: "the one above not asked for last time", texts: over(), steps: []step{{[]int{3, 0, 0}, []int{2}, []int{1, 2}, []int{5}}, {[]int{4, 0, 0}, []int{1}, []int{1}, []int{5}}, {[]int{4, 0, 0}, []int{2}, []int{2}, []int{6}}},
			behind: state([]int{4, 5, 6}, []int{1, 2}, []int{4, 0, 0})},
		{name: "not asked for, and turned at last", texts: over(), steps: []step{{[]int{3, 0, 0}, []int{2}, []int{1, 2}, []int{5}}, {[]int{4, 0, 0}, []int{1}, []int{1}, []int{5}}},
			behind: state([]int{4, 5, 5}, []int{1}, []int{4, 0, 0})},
		{name: "a key twice, and one that it fetches", texts: two(), steps: []step{{[]int{4, 0, 0}, []int{2, 2, 1, 2}, []int{1, 2}, []int{25, 25, 5, 25}}},
			behind: state([]int{4, 5, 25}, []int{1, 2}, []int{4, 0, 0})},
		{name: "a key that is an input", texts: two(), steps: []step{{[]int{4, 0, 0}, []int{0, 1, 0}, []int{1}, []int{4, 5, 4}}, {[]int{96, 0, 0}, []int{0}, nil, []int{96}}},
			behind: state([]int{96, 5, 0}, nil, []int{96, 0, 0})},
		{name: "no keys at all", texts: two(), steps: []step{{[]int{4, 0, 0}, nil, nil, nil}}, behind: state([]int{4, 0, 0}, nil, []int{4, 0, 0})},
		{name: "no keys at all behind others", texts: two(), steps: []step{{[]int{4, 0, 0}, []int{2}, []int{1, 2}, []int{25}}, {[]int{5, 0, 0}, nil, nil, nil}, {[]int{4, 0, 0}, []int{1}, []int{1}, []int{5}}},
			behind: state([]int{4, 5, 25}, []int{1}, []int{4, 0, 0})},
		{name: "inputs of made keys do not count", texts: two(), steps: []step{{[]int{4, 50, 7}, []int{1}, []int{1}, []int{5}}, {[]int{4, 96, 0}, []int{1}, nil, []int{5}}},
			behind: state([]int{4, 5, 0}, []int{1}, []int{4, 0, 0})},
		{name: "a key beyond the sheet", texts: []string{"(+ k5 3)"}, steps: []step{{[]int{0}, []int{0}, []int{0}, []int{3}}, {[]int{0}, []int{0}, nil, []int{3}}}, behind: state([]int{3}, []int{0}, []int{0})},
		{name: "a value of a key that is built is taken, right or not", texts: two(), from: state([]int{4, 6, 0}, []int{1}, []int{4, 0, 0}), steps: []step{{[]int{4, 0, 0}, []int{2}, []int{2}, []int{36}}},
			behind: state([]int{4, 6, 36}, []int{1, 2}, []int{4, 0, 0})},
		{name: "a value of a key that is not built is not taken", texts: two(), from: state([]int{4, 6, 36}, []int{2}, []int{4, 0, 0}), steps: []step{{[]int{4, 0, 0}, []int{1}, []int{1}, []int{5}}, {[]int{4, 0, 0}, []int{2}, nil, []int{36}}},
			behind: state([]int{4, 5, 36}, []int{1, 2}, []int{4, 0, 0})},
		{name: "traces are left as they are", texts: two(), from: state([]int{4, 6, 0}, nil, []int{4, 0, 0}, trace(1, pairs{{0, 4}}, 9), trace(1, pairs{{0, 4}}, 9)), steps: []step{{[]int{4, 0, 0}, []int{2}, []int{1, 2}, []int{25}}},
			behind: state([]int{4, 5, 25}, []int{1, 2}, []int{4, 0, 0}, trace(1, pairs{{0, 4}}, 9), trace(1, pairs{{0, 4}}, 9))},
		{name: "both ways in a ring", texts: ring(), steps: []step{{[]int{0, 0, 1}, []int{1}, []int{0, 1}, []int{7}}, {[]int{0, 0, 0}, []int{0}, []int{1, 0}, []int{8}}},
			behind: state([]int{8, 8, 0}, []int{0, 1}, []int{0, 0, 0})},
		{name: "a ring that is closed", texts: []string{"k1", "k0"}, steps: []step{{[]int{0, 0}, []int{0}, refused(), refused()}, {[]int{0, 0}, []int{1}, refused(), refused()}, {[]int{0, 0}, nil, nil, nil}}, behind: state([]int{0, 0}, nil, []int{0, 0})},
		{name: "a ring that is cut by what was built", texts: []string{"k1", "k0"}, from: state([]int{0, 9}, []int{1}, []int{0, 0}), steps: []step{{[]int{0, 0}, []int{0}, []int{0}, []int{9}}}, behind: state([]int{9, 9}, []int{0, 1}, []int{0, 0})},
		{name: "a ring that a turned input opens to nothing", texts: []string{"(? k2 k1 k1)", "(? k2 k0 k0)", "-"}, from: state([]int{0, 9, 3}, []int{1}, []int{0, 0, 3}), steps: []step{{[]int{0, 0, 4}, []int{0}, refused(), refused()}, {[]int{0, 0, 3}, []int{0}, []int{0}, []int{9}}},
			behind: state([]int{9, 9, 3}, []int{0, 1}, []int{0, 0, 3})},
	}
	for i := range list {
		list[i].way = way
	}
	return list
}

// branch is a key 4 that fetches the key 2, and the key 3 only if that is not 0.
func branch() []string { return []string{"-", "-", "(+ k0 0)", "(+ k1 1)", "(? k2 k3 7)"} }

func verifyStories() []story {
	way := impl.WayVerify
	fromThree, fromFour := trace(1, pairs{{0, 3}}, 4), trace(1, pairs{{0, 4}}, 5)
	square, sum := trace(2, pairs{{1, 5}}, 25), trace(2, pairs{{1, 4}}, 5)
	list := []story{
		{name: "from the state at first", texts: two(), steps: []step{{[]int{4, 0, 0}, []int{2}, []int{1, 2}, []int{25}}},
			behind: state([]int{4, 5, 25}, []int{1, 2}, []int{4, 0, 0}, fromFour, square)},
		{name: "the same inputs once more", texts: two(), steps: []step{{[]int{4, 0, 0}, []int{2}, []int{1, 2}, []int{25}}, {[]int{4, 0, 0}, []int{2}, nil, []int{25}}},
			behind: state([]int{4, 5, 25}, []int{1, 2}, []int{4, 0, 0}, fromFour, square)},
		{name: "turned, and turned back", texts: two(), steps: []step{{[]int{4, 0, 0}, []int{2}, []int{1, 2}, []int{25}}, {[]int{5, 0, 0}, []int{2}, []int{1, 2}, []int{36}}, {[]int{4, 0, 0}, []int{2}, []int{1, 2}, []int{25}}},
			behind: state([]int{4, 5, 25}, []int{1, 2}, []int{4, 0, 0}, fromFour, square)},
		{name: "by way of another key, which is as it was", texts: nought(), steps: []step{{[]int{3, 0, 0}, []int{2}, []int{1, 2}, []int{1}}, {[]int{4, 0, 0}, []int{2}, []int{1}, []int{1}}},
			behind: state([]int{4, 0, 1}, []int{1, 2}, []int{4, 0, 0}, trace(1, pairs{{0, 4}}, 0), trace(2, pairs{{1, 0}}, 1))},
		{name: "what may be fetched, but is not", texts: []string{"-", "-", "(? k0 k1 8)"}, steps: []step{{[]int{0, 1, 0}, []int{2}, []int{2}, []int{8}}, {[]int{0, 2, 0}, []int{2}, nil, []int{8}}},
			behind: state([]int{0, 2, 8}, []int{2}, []int{0, 2, 0}, trace(2, pairs{{0, 0}}, 8))},
		{name: "not asked for last time", texts: over(), steps: []step{{[]int{3, 0, 0}, []int{2}, []int{1, 2}, []int{5}}, {[]int{4, 0, 0}, []int{1}, []int{1}, []int{5}}, {[]int{4, 0, 0}, []int{2}, []int{2}, []int{6}}},
			behind: state([]int{4, 5, 6}, []int{1, 2}, []int{4, 0, 0}, fromFour, trace(2, pairs{{1, 5}}, 6))},
		{name: "not asked for last time, and stays as it was", texts: over(), steps: []step{{[]int{3, 0, 0}, []int{2}, []int{1, 2}, []int{5}}, {[]int{4, 0, 0}, []int{1}, []int{1}, []int{5}}},
			behind: state([]int{4, 5, 5}, []int{1, 2}, []int{4, 0, 0}, fromFour, sum)},
		{name: "not asked for last time, turned back", texts: over(), steps: []step{{[]int{3, 0, 0}, []int{2}, []int{1, 2}, []int{5}}, {[]int{4, 0, 0}, []int{1}, []int{1}, []int{5}}, {[]int{3, 0, 0}, []int{2}, []int{1}, []int{5}}},
			behind: state([]int{3, 4, 5}, []int{1, 2}, []int{3, 0, 0}, fromThree, sum)},
		{name: "never asked for", texts: beside(), steps: []step{{[]int{1, 0, 0}, []int{2}, []int{2}, []int{3}}, {[]int{1, 0, 0}, []int{1, 2}, []int{1}, []int{2, 3}}},
			behind: state([]int{1, 2, 3}, []int{1, 2}, []int{1, 0, 0}, trace(2, pairs{{0, 1}}, 3), trace(1, pairs{{0, 1}}, 2))},
		{name: "in the place of the elder one", texts: []string{"-", "k0", "7", "k0", "k1"}, steps: []step{{[]int{1, 0, 0, 0, 0}, []int{3, 1, 2}, []int{3, 1, 2}, []int{1, 1, 7}}, {[]int{2, 0, 0, 0, 0}, []int{4}, []int{1, 4}, []int{2}}, {[]int{3, 0, 0, 0, 0}, []int{1, 2}, []int{1}, []int{3, 7}}},
			behind: state([]int{3, 3, 7, 1, 2}, []int{1, 2, 3, 4}, []int{3, 0, 0, 0, 0}, trace(3, pairs{{0, 1}}, 1), trace(1, pairs{{0, 3}}, 3), trace(2, nil, 7), trace(4, pairs{{1, 2}}, 2))},
		{name: "keys that it used are looked at up to the first that differs", texts: branch(), steps: []step{{[]int{1, 5, 0, 0, 0}, []int{4}, []int{2, 3, 4}, []int{6}}, {[]int{0, 6, 0, 0, 0}, []int{4}, []int{2, 4}, []int{7}}, {[]int{1, 6, 0, 0, 0}, []int{4}, []int{2, 3, 4}, []int{7}}},
			behind: state([]int{1, 6, 1, 7, 7}, []int{2, 3, 4}, []int{1, 6, 0, 0, 0}, trace(2, pairs{{0, 1}}, 1), trace(3, pairs{{1, 6}}, 7), trace(4, pairs{{2, 1}, {3, 7}}, 7))},
		{name: "keys that it used and does not fetch are looked at, too", texts: []string{"-", "(+ k0 1)", "(+ k0 2)", "(+ k0 3)", "9"}, from: state([]int{0, 0, 0, 0, 8}, []int{4}, []int{0, 0, 0, 0, 0}, trace(4, pairs{{2, 2}, {1, 50}, {3, 3}}, 8)),
			steps:  []step{{[]int{0, 0, 0, 0, 0}, []int{4}, []int{2, 1, 4}, []int{9}}},
			behind: state([]int{0, 1, 2, 0, 9}, []int{1, 2, 4}, []int{0, 0, 0, 0, 0}, trace(4, nil, 9), trace(2, pairs{{0, 0}}, 2), trace(1, pairs{{0, 0}}, 1))},
		{name: "keys that it used stay as they were", texts: two(), steps: []step{{[]int{4, 0, 0}, []int{1}, []int{1}, []int{5}}, {[]int{4, 0, 0}, []int{2}, []int{2}, []int{25}}, {[]int{4, 0, 0}, []int{2, 1}, nil, []int{25, 5}}},
			behind: state([]int{4, 5, 25}, []int{1, 2}, []int{4, 0, 0}, fromFour, square)},
		{name: "several traces of a key, of which the second holds", texts: two(), from: state([]int{4, 5, 0}, []int{1}, []int{4, 0, 0}, fromFour, square, fromThree), steps: []step{{[]int{3, 0, 0}, []int{1}, []int{1}, []int{4}}},
			behind: state([]int{3, 4, 0}, []int{1}, []int{3, 0, 0}, fromThree, square, fromThree)},
		{name: "several traces of a key, of which the first holds", texts: two(), from: state([]int{4, 50, 0}, []int{1}, []int{4, 0, 0}, fromFour, square, fromThree), steps: []step{{[]int{4, 0, 0}, []int{1}, nil, []int{50}}},
			behind: state([]int{4, 50, 0}, []int{1}, []int{4, 0, 0}, fromFour, square, fromThree)},
		{name: "built, but without a trace", texts: two(), from: state([]int{4, 50, 0}, []int{1}, []int{4, 0, 0}, square), steps: []step{{[]int{4, 0, 0}, []int{1}, []int{1}, []int{5}}},
			behind: state([]int{4, 5, 0}, []int{1}, []int{4, 0, 0}, square, fromFour)},
		{name: "not built, but with a trace that holds", texts: two(), from: state([]int{4, 5, 0}, nil, []int{4, 0, 0}, trace(1, pairs{{0, 4}}, 60), square), steps: []step{{[]int{4, 0, 0}, []int{1}, []int{1}, []int{5}}},
			behind: state([]int{4, 5, 0}, []int{1}, []int{4, 0, 0}, fromFour, square)},
		{name: "not built, so that the keys that its trace used are not looked at", texts: []string{"-", "k0", "9"}, from: state([]int{4, 0, 0}, nil, []int{4, 0, 0}, trace(2, pairs{{1, 4}}, 9)), steps: []step{{[]int{4, 0, 0}, []int{2}, []int{2}, []int{9}}},
			behind: state([]int{4, 0, 9}, []int{2}, []int{4, 0, 0}, trace(2, nil, 9))},
		{name: "a value that is not that of its trace stays", texts: two(), from: state([]int{4, 6, 0}, []int{1}, []int{4, 0, 0}, fromFour), steps: []step{{[]int{4, 0, 0}, []int{2}, []int{2}, []int{36}}},
			behind: state([]int{4, 6, 36}, []int{1, 2}, []int{4, 0, 0}, fromFour, trace(2, pairs{{1, 6}}, 36))},
		{name: "a trace that is not honest is one", texts: two(), from: state([]int{4, 6, 0}, []int{1}, []int{4, 0, 0}, trace(1, nil, 6)), steps: []step{{[]int{9, 0, 0}, []int{1, 2}, []int{2}, []int{6, 36}}},
			behind: state([]int{9, 6, 36}, []int{1, 2}, []int{9, 0, 0}, trace(1, nil, 6), trace(2, pairs{{1, 6}}, 36))},
		{name: "sixty traces, and one more", texts: two(), from: state([]int{4, 5, 0}, []int{1}, []int{4, 0, 0}, slices.Repeat([]impl.Trace{fromFour}, 60)...), steps: []step{{[]int{4, 0, 0}, []int{2}, []int{2}, []int{25}}},
			behind: state([]int{4, 5, 25}, []int{1, 2}, []int{4, 0, 0}, append(slices.Repeat([]impl.Trace{fromFour}, 60), square)...)},
		{name: "a key twice, and one that it fetches", texts: two(), steps: []step{{[]int{4, 0, 0}, []int{2, 2, 1, 2}, []int{1, 2}, []int{25, 25, 5, 25}}},
			behind: state([]int{4, 5, 25}, []int{1, 2}, []int{4, 0, 0}, fromFour, square)},
		{name: "a key that is an input", texts: two(), steps: []step{{[]int{4, 0, 0}, []int{0, 1, 0}, []int{1}, []int{4, 5, 4}}, {[]int{96, 0, 0}, []int{0}, nil, []int{96}}},
			behind: state([]int{96, 5, 0}, []int{1}, []int{96, 0, 0}, fromFour)},
		{name: "no keys at all", texts: two(), steps: []step{{[]int{4, 0, 0}, []int{1}, []int{1}, []int{5}}, {[]int{5, 0, 0}, nil, nil, nil}}, behind: state([]int{5, 5, 0}, []int{1}, []int{5, 0, 0}, fromFour)},
		{name: "inputs of made keys do not count", texts: two(), steps: []step{{[]int{4, 50, 7}, []int{1}, []int{1}, []int{5}}, {[]int{4, 96, 0}, []int{1}, nil, []int{5}}}, behind: state([]int{4, 5, 0}, []int{1}, []int{4, 0, 0}, fromFour)},
		{name: "a key that is fetched twice", texts: []string{"-", "(+ k0 (+ k0 k0))"}, steps: []step{{[]int{4, 0}, []int{1}, []int{1}, []int{12}}}, behind: state([]int{4, 12}, []int{1}, []int{4, 0}, trace(1, pairs{{0, 4}}, 12))},
		{name: "a key beyond the sheet", texts: []string{"(+ k5 3)"}, steps: []step{{[]int{0}, []int{0}, []int{0}, []int{3}}, {[]int{0}, []int{0}, nil, []int{3}}}, behind: state([]int{3}, []int{0}, []int{0}, trace(0, pairs{{5, 0}}, 3))},
		{name: "a key beyond the sheet that had another value", texts: []string{"(+ k5 3)"}, from: state([]int{8}, []int{0}, []int{0}, trace(0, pairs{{5, 5}}, 8)), steps: []step{{[]int{0}, []int{0}, []int{0}, []int{3}}}, behind: state([]int{3}, []int{0}, []int{0}, trace(0, pairs{{5, 0}}, 3))},
		{name: "both ways in a ring", texts: ring(), steps: []step{{[]int{0, 0, 1}, []int{1}, []int{0, 1}, []int{7}}, {[]int{0, 0, 0}, []int{0}, []int{1, 0}, []int{8}}},
			behind: state([]int{8, 8, 0}, []int{0, 1}, []int{0, 0, 0}, trace(0, pairs{{2, 0}, {1, 8}}, 8), trace(1, pairs{{2, 0}}, 8))},
		{name: "a ring that is closed", texts: []string{"k1", "k0"}, steps: []step{{[]int{0, 0}, []int{0}, refused(), refused()}, {[]int{0, 0}, []int{1}, refused(), refused()}, {[]int{0, 0}, nil, nil, nil}}, behind: state([]int{0, 0}, nil, []int{0, 0})},
		{name: "traces in a ring", texts: []string{"k1", "k0"}, from: state([]int{6, 6}, []int{0, 1}, []int{0, 0}, trace(0, pairs{{1, 6}}, 6), trace(1, pairs{{0, 6}}, 6)), steps: []step{{[]int{0, 0}, []int{0}, refused(), refused()}, {[]int{0, 0}, []int{0, 1}, refused(), refused()}, {[]int{0, 0}, nil, nil, nil}},
			behind: state([]int{6, 6}, []int{0, 1}, []int{0, 0}, trace(0, pairs{{1, 6}}, 6), trace(1, pairs{{0, 6}}, 6))},
		{name: "traces in a ring of a safe sheet", texts: []string{"7", "8", "9"}, from: state([]int{7, 8, 0}, []int{0, 1}, []int{0, 0, 0}, trace(0, pairs{{1, 8}}, 7), trace(1, pairs{{0, 7}}, 8)), steps: []step{{[]int{0, 0, 0}, []int{0}, refused(), refused()}, {[]int{0, 0, 0}, []int{2, 1}, refused(), refused()}, {[]int{0, 0, 0}, []int{2}, []int{2}, []int{9}}},
			behind: state([]int{7, 8, 9}, []int{0, 1, 2}, []int{0, 0, 0}, trace(0, pairs{{1, 8}}, 7), trace(1, pairs{{0, 7}}, 8), trace(2, nil, 9))},
		{name: "a trace that used its own key", texts: []string{"(? k1 k0 7)", "-"}, from: state([]int{5, 1}, []int{0}, []int{0, 1}, trace(0, pairs{{1, 1}, {0, 5}}, 5)), steps: []step{{[]int{0, 1}, []int{0}, refused(), refused()}, {[]int{0, 0}, []int{0}, []int{0}, []int{7}}},
			behind: state([]int{7, 0}, []int{0}, []int{0, 0}, trace(0, pairs{{1, 0}}, 7))},
	}
	for i := range list {
		list[i].way = way
	}
	return list
}

func storeStories() []story {
	way := impl.WayStore
	fromThree, fromFour, fromFive := trace(1, pairs{{0, 3}}, 4), trace(1, pairs{{0, 4}}, 5), trace(1, pairs{{0, 5}}, 6)
	square, larger, seven := trace(2, pairs{{1, 5}}, 25), trace(2, pairs{{1, 6}}, 36), trace(2, nil, 7)
	none := state([]int{4, 0, 0}, nil, []int{4, 0, 0})
	with := func(list ...impl.Trace) impl.State {
		st := copyState(none)
		st.Traces = list
		return st
	}
	full := func(first impl.Trace) []impl.Trace {
		return append([]impl.Trace{first}, slices.Repeat([]impl.Trace{fromThree}, 59)...)
	}
	list := []story{
		{name: "from the state at first", texts: two(), steps: []step{{[]int{4, 0, 0}, []int{2}, []int{1, 2}, []int{25}}}, behind: state([]int{4, 5, 25}, []int{1, 2}, []int{4, 0, 0}, fromFour, square)},
		{name: "the same inputs once more", texts: two(), steps: []step{{[]int{4, 0, 0}, []int{2}, []int{1, 2}, []int{25}}, {[]int{4, 0, 0}, []int{2, 1}, nil, []int{25, 5}}}, behind: state([]int{4, 5, 25}, []int{1, 2}, []int{4, 0, 0}, fromFour, square)},
		{name: "turned, and turned back", texts: two(), steps: []step{{[]int{4, 0, 0}, []int{2}, []int{1, 2}, []int{25}}, {[]int{5, 0, 0}, []int{2}, []int{1, 2}, []int{36}}, {[]int{4, 0, 0}, []int{2}, nil, []int{25}}, {[]int{5, 0, 0}, []int{2}, nil, []int{36}}},
			behind: state([]int{5, 6, 36}, []int{1, 2}, []int{5, 0, 0}, fromFour, square, fromFive, larger)},
		{name: "by way of another key, which is as it was", texts: nought(), steps: []step{{[]int{3, 0, 0}, []int{2}, []int{1, 2}, []int{1}}, {[]int{4, 0, 0}, []int{2}, []int{1}, []int{1}}},
			behind: state([]int{4, 0, 1}, []int{1, 2}, []int{4, 0, 0}, trace(1, pairs{{0, 3}}, 0), trace(2, pairs{{1, 0}}, 1), trace(1, pairs{{0, 4}}, 0))},
		{name: "not asked for last time", texts: over(), steps: []step{{[]int{3, 0, 0}, []int{2}, []int{1, 2}, []int{5}}, {[]int{4, 0, 0}, []int{1}, []int{1}, []int{5}}, {[]int{4, 0, 0}, []int{2}, []int{2}, []int{6}}},
			behind: state([]int{4, 5, 6}, []int{1, 2}, []int{4, 0, 0}, fromThree, trace(2, pairs{{1, 4}}, 5), fromFour, trace(2, pairs{{1, 5}}, 6))},
		{name: "not asked for last time, turned back", texts: over(), steps: []step{{[]int{3, 0, 0}, []int{2}, []int{1, 2}, []int{5}}, {[]int{4, 0, 0}, []int{1}, []int{1}, []int{5}}, {[]int{3, 0, 0}, []int{2}, nil, []int{5}}},
			behind: state([]int{3, 4, 5}, []int{1, 2}, []int{3, 0, 0}, fromThree, trace(2, pairs{{1, 4}}, 5), fromFour)},
		{name: "the second of two traces holds", texts: two(), from: with(fromThree, larger, fromFour, square), steps: []step{{[]int{4, 0, 0}, []int{2}, nil, []int{25}}}, behind: state([]int{4, 5, 25}, []int{1, 2}, []int{4, 0, 0}, fromThree, larger, fromFour, square)},
		{name: "the first of two traces that hold", texts: two(), from: with(trace(1, pairs{{0, 4}}, 6), fromFour, larger, square), steps: []step{{[]int{4, 0, 0}, []int{2}, nil, []int{36}}}, behind: state([]int{4, 6, 36}, []int{1, 2}, []int{4, 0, 0}, trace(1, pairs{{0, 4}}, 6), fromFour, larger, square)},
		{name: "no trace holds", texts: two(), from: with(fromThree, fromFive, larger), steps: []step{{[]int{4, 0, 0}, []int{2}, []int{1, 2}, []int{25}}}, behind: state([]int{4, 5, 25}, []int{1, 2}, []int{4, 0, 0}, fromThree, fromFive, larger, fromFour, square)},
		{name: "what is built does not count", texts: two(), from: state([]int{4, 50, 60}, []int{1, 2}, []int{4, 0, 0}), steps: []step{{[]int{4, 0, 0}, []int{2}, []int{1, 2}, []int{25}}}, behind: state([]int{4, 5, 25}, []int{1, 2}, []int{4, 0, 0}, fromFour, square)},
		{name: "what is built and not asked for stays", texts: two(), from: state([]int{4, 50, 60}, []int{1, 2}, []int{4, 0, 0}), steps: []step{{[]int{4, 0, 0}, []int{1}, []int{1}, []int{5}}}, behind: state([]int{4, 5, 60}, []int{1, 2}, []int{4, 0, 0}, fromFour)},
		{name: "keys that each used are looked at up to the first that differs", texts: []string{"-", "(+ k0 1)", "(+ k0 2)", "(+ k0 3)", "(+ k0 4)", "9"}, from: state([]int{0, 0, 0, 0, 0, 0}, nil, []int{0, 0, 0, 0, 0, 0}, trace(5, pairs{{2, 2}, {1, 50}, {3, 3}}, 8), trace(5, pairs{{4, 50}, {3, 3}}, 8), trace(5, pairs{{0, 0}}, 60)),
			steps: []step{{[]int{0, 0, 0, 0, 0, 0}, []int{5}, []int{2, 1, 4}, []int{60}}},
			behind: state([]int{0, 1, 2, 0, 4, 60}, []int{1, 2, 4, 5}, []int{0, 0, 0, 0, 0, 0}, trace(5, pairs{{2, 2}, {1, 50}, {3, 3}}, 8), trace(5, pairs{{4, 50}, {3, 3}}, 8), trace(5, pairs{{0, 0}}, 60),
				trace(2, pairs{{0, 0}}, 2), trace(1, pairs{{0, 0}}, 1), trace(4, pairs{{0, 0}}, 4))},
		{name: "a trace that used nothing", texts: two(), from: with(seven), steps: []step{{[]int{5, 0, 0}, []int{2}, nil, []int{7}}}, behind: state([]int{5, 0, 7}, []int{2}, []int{5, 0, 0}, seven)},
		{name: "sixty, the first is dropped", texts: two(), from: with(full(fromFive)...), steps: []step{{[]int{4, 0, 0}, []int{1}, []int{1}, []int{5}}}, behind: state([]int{4, 5, 0}, []int{1}, []int{4, 0, 0}, append(slices.Repeat([]impl.Trace{fromThree}, 59), fromFour)...)},
		{name: "fifty-nine, none is dropped", texts: two(), from: with(full(fromFive)[:59]...), steps: []step{{[]int{4, 0, 0}, []int{1}, []int{1}, []int{5}}}, behind: state([]int{4, 5, 0}, []int{1}, []int{4, 0, 0}, append(full(fromFive)[:59], fromFour)...)},
		{name: "sixty, two are dropped", texts: two(), from: with(full(fromFive)...), steps: []step{{[]int{4, 0, 0}, []int{2}, []int{1, 2}, []int{25}}}, behind: state([]int{4, 5, 25}, []int{1, 2}, []int{4, 0, 0}, append(slices.Repeat([]impl.Trace{fromThree}, 58), fromFour, square)...)},
		{name: "sixty, a trace that is dropped while its key is looked at", texts: two(), from: with(full(square)...), steps: []step{{[]int{4, 0, 0}, []int{2}, []int{1}, []int{25}}}, behind: state([]int{4, 5, 25}, []int{1, 2}, []int{4, 0, 0}, append(slices.Repeat([]impl.Trace{fromThree}, 59), fromFour)...)},
		{name: "sixty, a second trace that is dropped while its key is looked at", texts: append(two(), "k2"), from: state([]int{4, 0, 0, 0}, nil, []int{4, 0, 0, 0}, append([]impl.Trace{trace(3, pairs{{2, 36}}, 36), trace(3, pairs{{1, 5}}, 50)}, full(fromFive)[:58]...)...), steps: []step{{[]int{4, 0, 0, 0}, []int{3}, []int{1, 2}, []int{50}}},
			behind: state([]int{4, 5, 25, 50}, []int{1, 2, 3}, []int{4, 0, 0, 0}, append(full(fromFive)[:58], fromFour, square)...)},
		{name: "sixty, a trace that is dropped ahead", texts: two(), from: with(full(square)...), steps: []step{{[]int{4, 0, 0}, []int{1, 2}, []int{1, 2}, []int{5, 25}}}, behind: state([]int{4, 5, 25}, []int{1, 2}, []int{4, 0, 0}, append(slices.Repeat([]impl.Trace{fromThree}, 58), fromFour, square)...)},
		{name: "sixty, and nothing is run", texts: two(), from: with(full(fromFive)...), steps: []step{{[]int{3, 0, 0}, []int{1}, nil, []int{4}}, {[]int{5, 0, 0}, []int{1}, nil, []int{6}}}, behind: state([]int{5, 6, 0}, []int{1}, []int{5, 0, 0}, full(fromFive)...)},
		{name: "a key twice, and one that it fetches", texts: two(), steps: []step{{[]int{4, 0, 0}, []int{2, 2, 1, 2}, []int{1, 2}, []int{25, 25, 5, 25}}}, behind: state([]int{4, 5, 25}, []int{1, 2}, []int{4, 0, 0}, fromFour, square)},
		{name: "a key that is an input", texts: two(), steps: []step{{[]int{4, 0, 0}, []int{0, 1, 0}, []int{1}, []int{4, 5, 4}}, {[]int{96, 0, 0}, []int{0}, nil, []int{96}}}, behind: state([]int{96, 5, 0}, []int{1}, []int{96, 0, 0}, fromFour)},
		{name: "no keys at all", texts: two(), from: with(fromThree), steps: []step{{[]int{5, 0, 0}, nil, nil, nil}}, behind: state([]int{5, 0, 0}, nil, []int{5, 0, 0}, fromThree)},
		{name: "inputs of made keys do not count", texts: two(), steps: []step{{[]int{4, 50, 7}, []int{1}, []int{1}, []int{5}}, {[]int{4, 96, 0}, []int{1}, nil, []int{5}}}, behind: state([]int{4, 5, 0}, []int{1}, []int{4, 0, 0}, fromFour)},
		{name: "a key beyond the sheet", texts: []string{"(+ k5 3)"}, steps: []step{{[]int{0}, []int{0}, []int{0}, []int{3}}, {[]int{0}, []int{0}, nil, []int{3}}}, behind: state([]int{3}, []int{0}, []int{0}, trace(0, pairs{{5, 0}}, 3))},
		{name: "a key beyond the sheet that had another value", texts: []string{"(+ k5 3)"}, from: state([]int{8}, []int{0}, []int{0}, trace(0, pairs{{5, 5}}, 8)), steps: []step{{[]int{0}, []int{0}, []int{0}, []int{3}}}, behind: state([]int{3}, []int{0}, []int{0}, trace(0, pairs{{5, 5}}, 8), trace(0, pairs{{5, 0}}, 3))},
		{name: "both ways in a ring", texts: ring(), steps: []step{{[]int{0, 0, 1}, []int{1}, []int{0, 1}, []int{7}}, {[]int{0, 0, 0}, []int{0}, []int{1, 0}, []int{8}}, {[]int{0, 0, 1}, []int{0, 1}, nil, []int{7, 7}}},
			behind: state([]int{7, 7, 1}, []int{0, 1}, []int{0, 0, 1}, trace(0, pairs{{2, 1}}, 7), trace(1, pairs{{2, 1}, {0, 7}}, 7), trace(1, pairs{{2, 0}}, 8), trace(0, pairs{{2, 0}, {1, 8}}, 8))},
		{name: "a ring that is closed", texts: []string{"k1", "k0"}, steps: []step{{[]int{0, 0}, []int{0}, refused(), refused()}, {[]int{0, 0}, nil, nil, nil}}, behind: state([]int{0, 0}, nil, []int{0, 0})},
		{name: "a ring that is cut by a trace", texts: []string{"k1", "k0"}, from: state([]int{0, 0}, nil, []int{0, 0}, trace(1, nil, 9)), steps: []step{{[]int{0, 0}, []int{0}, []int{0}, []int{9}}}, behind: state([]int{9, 9}, []int{0, 1}, []int{0, 0}, trace(1, nil, 9), trace(0, pairs{{1, 9}}, 9))},
		{name: "traces in a ring of a safe sheet", texts: []string{"7", "8", "9"}, from: state([]int{7, 8, 0}, []int{0, 1}, []int{0, 0, 0}, trace(0, pairs{{1, 8}}, 7), trace(1, pairs{{0, 7}}, 8)), steps: []step{{[]int{0, 0, 0}, []int{0}, refused(), refused()}, {[]int{0, 0, 0}, []int{2, 1}, refused(), refused()}, {[]int{0, 0, 0}, []int{2}, []int{2}, []int{9}}},
			behind: state([]int{7, 8, 9}, []int{0, 1, 2}, []int{0, 0, 0}, trace(0, pairs{{1, 8}}, 7), trace(1, pairs{{0, 7}}, 8), trace(2, nil, 9))},
		{name: "a trace in a ring, though another one would hold", texts: []string{"7"}, from: state([]int{0}, nil, []int{0}, trace(0, pairs{{0, 7}}, 7), trace(0, nil, 7)), steps: []step{{[]int{0}, []int{0}, refused(), refused()}}, behind: state([]int{0}, nil, []int{0}, trace(0, pairs{{0, 7}}, 7), trace(0, nil, 7))},
	}
	for i := range list {
		list[i].way = way
	}
	return list
}

// byInputs has a key whose trace has inputs, and a key beyond the sheet, by way of another one.
func byInputs() []string { return []string{"-", "(+ k0 1)", "(+ k1 (+ k3 k9))", "-"} }

func deepStories() []story {
	way := impl.WayDeep
	fromThree, fromFour, fromFive := trace(1, pairs{{0, 3}}, 4), trace(1, pairs{{0, 4}}, 5), trace(1, pairs{{0, 5}}, 6)
	square, larger := trace(2, pairs{{0, 4}}, 25), trace(2, pairs{{0, 5}}, 36)
	none := state([]int{4, 0, 0}, nil, []int{4, 0, 0})
	with := func(list ...impl.Trace) impl.State {
		st := copyState(none)
		st.Traces = list
		return st
	}
	full := func(first impl.Trace) []impl.Trace {
		return append([]impl.Trace{first}, slices.Repeat([]impl.Trace{fromThree}, 59)...)
	}
	list := []story{
		{name: "from the state at first", texts: two(), steps: []step{{[]int{4, 0, 0}, []int{2}, []int{1, 2}, []int{25}}}, behind: state([]int{4, 5, 25}, []int{1, 2}, []int{4, 0, 0}, fromFour, square)},
		{name: "inputs, and keys beyond the sheet, by way of another key", texts: byInputs(), steps: []step{{[]int{4, 0, 0, 3}, []int{2}, []int{1, 2}, []int{8}}}, behind: state([]int{4, 5, 8, 3}, []int{1, 2}, []int{4, 0, 0, 3}, fromFour, trace(2, pairs{{0, 4}, {3, 3}, {9, 0}}, 8))},
		{name: "the same inputs once more", texts: byInputs(), steps: []step{{[]int{4, 0, 0, 3}, []int{2}, []int{1, 2}, []int{8}}, {[]int{4, 0, 0, 3}, []int{2}, nil, []int{8}}}, behind: state([]int{4, 5, 8, 3}, []int{1, 2}, []int{4, 0, 0, 3}, fromFour, trace(2, pairs{{0, 4}, {3, 3}, {9, 0}}, 8))},
		{name: "one input turned", texts: byInputs(), steps: []step{{[]int{4, 0, 0, 3}, []int{2}, []int{1, 2}, []int{8}}, {[]int{4, 0, 0, 5}, []int{2}, []int{2}, []int{10}}}, behind: state([]int{4, 5, 10, 5}, []int{1, 2}, []int{4, 0, 0, 5}, fromFour, trace(2, pairs{{0, 4}, {3, 3}, {9, 0}}, 8), trace(2, pairs{{0, 4}, {3, 5}, {9, 0}}, 10))},
		{name: "turned, and turned back", texts: two(), steps: []step{{[]int{4, 0, 0}, []int{2}, []int{1, 2}, []int{25}}, {[]int{5, 0, 0}, []int{2}, []int{1, 2}, []int{36}}, {[]int{4, 0, 0}, []int{2}, nil, []int{25}}}, behind: state([]int{4, 6, 25}, []int{1, 2}, []int{4, 0, 0}, fromFour, square, fromFive, larger)},
		{name: "by way of another key, which is as it was", texts: nought(), steps: []step{{[]int{3, 0, 0}, []int{2}, []int{1, 2}, []int{1}}, {[]int{4, 0, 0}, []int{2}, []int{1, 2}, []int{1}}},
			behind: state([]int{4, 0, 1}, []int{1, 2}, []int{4, 0, 0}, trace(1, pairs{{0, 3}}, 0), trace(2, pairs{{0, 3}}, 1), trace(1, pairs{{0, 4}}, 0), trace(2, pairs{{0, 4}}, 1))},
		{name: "not asked for last time", texts: over(), steps: []step{{[]int{3, 0, 0}, []int{2}, []int{1, 2}, []int{5}}, {[]int{4, 0, 0}, []int{1}, []int{1}, []int{5}}, {[]int{4, 0, 0}, []int{2}, []int{2}, []int{6}}},
			behind: state([]int{4, 5, 6}, []int{1, 2}, []int{4, 0, 0}, fromThree, trace(2, pairs{{0, 3}}, 5), fromFour, trace(2, pairs{{0, 4}}, 6))},
		{name: "not asked for last time, turned back", texts: over(), steps: []step{{[]int{3, 0, 0}, []int{2}, []int{1, 2}, []int{5}}, {[]int{4, 0, 0}, []int{1}, []int{1}, []int{5}}, {[]int{3, 0, 0}, []int{2}, nil, []int{5}}},
			behind: state([]int{3, 5, 5}, []int{1, 2}, []int{3, 0, 0}, fromThree, trace(2, pairs{{0, 3}}, 5), fromFour)},
		{name: "what the taken key fetches is not looked at", texts: two(), from: with(square), steps: []step{{[]int{4, 0, 0}, []int{2}, nil, []int{25}}}, behind: state([]int{4, 0, 25}, []int{2}, []int{4, 0, 0}, square)},
		{name: "each once, where it came first", texts: []string{"-", "-", "(+ k1 k0)", "(+ k0 k1)", "(+ k3 (+ k2 k0))", "(+ k2 (+ k3 k1))", "(+ k9 (+ k8 (+ k5 (+ k0 k4))))"}, steps: []step{{[]int{1, 2, 0, 0, 0, 0, 0}, []int{6}, []int{2, 3, 5, 4, 6}, []int{16}}},
			behind: state([]int{1, 2, 3, 3, 7, 8, 16}, []int{2, 3, 4, 5, 6}, []int{1, 2, 0, 0, 0, 0, 0}, trace(2, pairs{{1, 2}, {0, 1}}, 3), trace(3, pairs{{0, 1}, {1, 2}}, 3), trace(5, pairs{{1, 2}, {0, 1}}, 8), trace(4, pairs{{0, 1}, {1, 2}}, 7), trace(6, pairs{{9, 0}, {8, 0}, {1, 2}, {0, 1}}, 16))},
		{name: "a made key amid inputs", texts: []string{"-", "-", "-", "(+ k2 k0)", "(+ k1 (+ k3 (+ k0 k2)))"}, steps: []step{{[]int{1, 2, 3, 0, 0}, []int{4}, []int{3, 4}, []int{10}}},
			behind: state([]int{1, 2, 3, 4, 10}, []int{3, 4}, []int{1, 2, 3, 0, 0}, trace(3, pairs{{2, 3}, {0, 1}}, 4), trace(4, pairs{{1, 2}, {2, 3}, {0, 1}}, 10))},
		{name: "keys that need no input", texts: []string{"7", "(+ k0 1)", "(+ k1 k0)"}, steps: []step{{[]int{0, 0, 0}, []int{2}, []int{0, 1, 2}, []int{15}}, {[]int{9, 8, 7}, []int{1}, nil, []int{8}}}, behind: state([]int{7, 8, 15}, []int{0, 1, 2}, []int{0, 0, 0}, trace(0, nil, 7), trace(1, nil, 8), trace(2, nil, 15))},
		{name: "what the taken trace used, in its order", texts: byInputs(), from: state([]int{4, 0, 0, 3}, nil, []int{4, 0, 0, 3}, trace(1, pairs{{8, 0}, {3, 3}, {0, 4}}, 5)), steps: []step{{[]int{4, 0, 0, 3}, []int{2}, []int{2}, []int{8}}},
			behind: state([]int{4, 5, 8, 3}, []int{1, 2}, []int{4, 0, 0, 3}, trace(1, pairs{{8, 0}, {3, 3}, {0, 4}}, 5), trace(2, pairs{{8, 0}, {3, 3}, {0, 4}, {9, 0}}, 8))},
		{name: "what the first trace that holds used", texts: two(), from: with(fromThree, trace(1, nil, 9), fromFour), steps: []step{{[]int{4, 0, 0}, []int{2}, []int{2}, []int{81}}}, behind: state([]int{4, 9, 81}, []int{1, 2}, []int{4, 0, 0}, fromThree, trace(1, nil, 9), fromFour, trace(2, nil, 81))},
		{name: "the second of two traces holds", texts: two(), from: with(larger, square, fromThree, fromFour), steps: []step{{[]int{4, 0, 0}, []int{2, 1}, nil, []int{25, 5}}}, behind: state([]int{4, 5, 25}, []int{1, 2}, []int{4, 0, 0}, larger, square, fromThree, fromFour)},
		{name: "no trace holds", texts: two(), from: with(fromThree, fromFive, larger), steps: []step{{[]int{4, 0, 0}, []int{2}, []int{1, 2}, []int{25}}}, behind: state([]int{4, 5, 25}, []int{1, 2}, []int{4, 0, 0}, fromThree, fromFive, larger, fromFour, square)},
		{name: "what is built does not count", texts: two(), from: state([]int{4, 50, 60}, []int{1, 2}, []int{4, 0, 0}), steps: []step{{[]int{4, 0, 0}, []int{2}, []int{1, 2}, []int{25}}}, behind: state([]int{4, 5, 25}, []int{1, 2}, []int{4, 0, 0}, fromFour, square)},
		{name: "a trace that used a made key, which is not looked at", texts: two(), from: state([]int{4, 5, 0}, nil, []int{4, 0, 0}, trace(2, pairs{{1, 5}}, 50)), steps: []step{{[]int{6, 0, 0}, []int{2}, nil, []int{50}}, {[]int{6, 0, 0}, []int{1, 2}, []int{1, 2}, []int{7, 49}}, {[]int{4, 0, 0}, []int{1, 2}, []int{1}, []int{5, 50}}},
			behind: state([]int{4, 5, 50}, []int{1, 2}, []int{4, 0, 0}, trace(2, pairs{{1, 5}}, 50), trace(1, pairs{{0, 6}}, 7), trace(2, pairs{{0, 6}}, 49), fromFour)},
		{name: "a made key that a taken trace used is left out", texts: []string{"-", "(+ k0 1)", "(* k1 k1)", "(+ k2 k0)"}, from: state([]int{4, 5, 0, 0}, nil, []int{4, 0, 0, 0}, trace(2, pairs{{9, 0}, {1, 5}, {2, 0}}, 50)), steps: []step{{[]int{6, 0, 0, 0}, []int{3}, []int{3}, []int{56}}},
			behind: state([]int{6, 5, 50, 56}, []int{2, 3}, []int{6, 0, 0, 0}, trace(2, pairs{{9, 0}, {1, 5}, {2, 0}}, 50), trace(3, pairs{{9, 0}, {0, 6}}, 56))},
		{name: "sixty, the first is dropped", texts: two(), from: with(full(fromFive)...), steps: []step{{[]int{4, 0, 0}, []int{1}, []int{1}, []int{5}}}, behind: state([]int{4, 5, 0}, []int{1}, []int{4, 0, 0}, append(slices.Repeat([]impl.Trace{fromThree}, 59), fromFour)...)},
		{name: "sixty, two are dropped", texts: two(), from: with(full(fromFive)...), steps: []step{{[]int{4, 0, 0}, []int{2}, []int{1, 2}, []int{25}}}, behind: state([]int{4, 5, 25}, []int{1, 2}, []int{4, 0, 0}, append(slices.Repeat([]impl.Trace{fromThree}, 58), fromFour, square)...)},
		{name: "sixty, a trace that is dropped ahead", texts: two(), from: with(full(square)...), steps: []step{{[]int{4, 0, 0}, []int{1, 2}, []int{1, 2}, []int{5, 25}}}, behind: state([]int{4, 5, 25}, []int{1, 2}, []int{4, 0, 0}, append(slices.Repeat([]impl.Trace{fromThree}, 58), fromFour, square)...)},
		{name: "sixty, and nothing is run", texts: two(), from: with(full(square)...), steps: []step{{[]int{4, 0, 0}, []int{2}, nil, []int{25}}}, behind: state([]int{4, 0, 25}, []int{2}, []int{4, 0, 0}, full(square)...)},
		{name: "sixty, a taken trace that is dropped before what fetched its key is put", texts: []string{"-", "(+ k4 1)", "(+ k0 2)", "(+ k1 k2)", "-"}, from: state([]int{4, 0, 0, 0, 3}, nil, []int{4, 0, 0, 0, 3}, append([]impl.Trace{trace(1, pairs{{4, 3}}, 4)}, slices.Repeat([]impl.Trace{trace(2, pairs{{0, 9}}, 11)}, 59)...)...),
			steps:  []step{{[]int{4, 0, 0, 0, 3}, []int{3}, []int{2, 3}, []int{10}}},
			behind: state([]int{4, 4, 6, 10, 3}, []int{1, 2, 3}, []int{4, 0, 0, 0, 3}, append(slices.Repeat([]impl.Trace{trace(2, pairs{{0, 9}}, 11)}, 58), trace(2, pairs{{0, 4}}, 6), trace(3, pairs{{4, 3}, {0, 4}}, 10))...)},
		{name: "a key twice, and one that it fetches", texts: two(), steps: []step{{[]int{4, 0, 0}, []int{2, 2, 1, 2}, []int{1, 2}, []int{25, 25, 5, 25}}}, behind: state([]int{4, 5, 25}, []int{1, 2}, []int{4, 0, 0}, fromFour, square)},
		{name: "a key that is an input", texts: two(), steps: []step{{[]int{4, 0, 0}, []int{0, 1, 0}, []int{1}, []int{4, 5, 4}}, {[]int{96, 0, 0}, []int{0}, nil, []int{96}}}, behind: state([]int{96, 5, 0}, []int{1}, []int{96, 0, 0}, fromFour)},
		{name: "no keys at all", texts: two(), from: with(fromThree), steps: []step{{[]int{5, 0, 0}, nil, nil, nil}}, behind: state([]int{5, 0, 0}, nil, []int{5, 0, 0}, fromThree)},
		{name: "inputs of made keys do not count", texts: two(), steps: []step{{[]int{4, 50, 7}, []int{1}, []int{1}, []int{5}}, {[]int{4, 96, 0}, []int{1}, nil, []int{5}}}, behind: state([]int{4, 5, 0}, []int{1}, []int{4, 0, 0}, fromFour)},
		{name: "a key beyond the sheet", texts: []string{"(+ k5 3)"}, steps: []step{{[]int{0}, []int{0}, []int{0}, []int{3}}, {[]int{0}, []int{0}, nil, []int{3}}}, behind: state([]int{3}, []int{0}, []int{0}, trace(0, pairs{{5, 0}}, 3))},
		{name: "a key beyond the sheet that had another value", texts: []string{"(+ k5 3)"}, from: state([]int{8}, []int{0}, []int{0}, trace(0, pairs{{5, 5}}, 8)), steps: []step{{[]int{0}, []int{0}, []int{0}, []int{3}}}, behind: state([]int{3}, []int{0}, []int{0}, trace(0, pairs{{5, 5}}, 8), trace(0, pairs{{5, 0}}, 3))},
		{name: "not safe, though no key fails", texts: ring(), steps: []step{{[]int{0, 0, 1}, []int{1}, refused(), refused()}, {[]int{0, 0, 0}, []int{2}, refused(), refused()}, {[]int{0, 0, 0}, nil, refused(), refused()}}, behind: state([]int{0, 0, 0}, nil, []int{0, 0, 0})},
		{name: "not safe by another key", texts: []string{"k0", "7"}, from: state([]int{0, 0}, nil, []int{0, 0}, trace(0, nil, 9), trace(1, nil, 7)), steps: []step{{[]int{0, 0}, []int{1}, refused(), refused()}, {[]int{0, 0}, []int{0}, refused(), refused()}}, behind: state([]int{0, 0}, nil, []int{0, 0}, trace(0, nil, 9), trace(1, nil, 7))},
		{name: "not safe by a key that is reckoned", texts: []string{"-", "(@0 0)"}, steps: []step{{[]int{3, 0}, []int{1}, refused(), refused()}}, behind: state([]int{0, 0}, nil, []int{0, 0})},
	}
	for i := range list {
		list[i].way = way
	}
	return list
}

// emptyStories are builds of a sheet that has no keys, and one that has inputs alone, by each way.
func emptyStories() []story {
	var list []story
	for _, way := range allWays() {
		list = append(list,
			story{name: "a sheet of no keys", way: way, steps: []step{{nil, nil, nil, nil}, {[]int{}, []int{}, nil, nil}}},
			story{name: "inputs alone", texts: []string{"-", "-"}, way: way, steps: []step{{[]int{3, 96}, nil, nil, nil}, {[]int{4, 0}, []int{1, 0, 1}, nil, []int{0, 4, 0}}}, behind: state([]int{4, 0}, nil, []int{4, 0})},
			story{name: "ten keys", texts: []string{"-", "k0", "k1", "k2", "k3", "k4", "k5", "k6", "k7", "k8"}, way: way, steps: []step{{[]int{96, 0, 0, 0, 0, 0, 0, 0, 0, 0}, []int{9}, []int{1, 2, 3, 4, 5, 6, 7, 8, 9}, []int{96}}, {[]int{96, 0, 0, 0, 0, 0, 0, 0, 0, 0}, []int{8, 9}, nil, []int{96, 96}}},
				behind: state(slices.Repeat([]int{96}, 10), []int{1, 2, 3, 4, 5, 6, 7, 8, 9}, []int{96, 0, 0, 0, 0, 0, 0, 0, 0, 0}, tenTraces(way)...)})
	}
	return list
}

// tenTraces are the traces of ten keys, each of which fetches the one ahead of it, the input 96 at first.
func tenTraces(way int) []impl.Trace {
	var list []impl.Trace
	for key := 1; key < 10; key++ {
		switch way {
		case impl.WayDeep:
			list = append(list, trace(key, pairs{{0, 96}}, 96))
		case impl.WayVerify, impl.WayStore:
			list = append(list, trace(key, pairs{{key - 1, 96}}, 96))
		}
	}
	return list
}

func stories() []story {
	return slices.Concat(dirtyStories(), verifyStories(), storeStories(), deepStories(), emptyStories())
}

// first returns the state from which a story goes on.
func (c story) first() impl.State {
	if n := len(c.texts); len(c.from.Values) == 0 {
		return state(make([]int, n), nil, make([]int, n))
	}
	return copyState(c.from)
}

func TestStories(t *testing.T) {
	for _, c := range stories() {
		s, st := sheet(c.texts...), c.first()
		for i, x := range c.steps {
			name := "the way " + strconv.Itoa(c.way) + ", " + c.name + ", build " + strconv.Itoa(i)
			behind, runs, ok := impl.BuildStep(s, c.way, st, x.inputs, x.keys)
			checkOrder(t, name+": runs", runs, ok, x.runs)
			values, ok := impl.BuildOf(s, c.way, st, x.inputs, x.keys)
			checkOrder(t, name+": values", values, ok, x.values)
			count := len(x.runs)
			if slices.Equal(x.runs, refused()) {
				count = -1
			}
			if got := impl.BuildRuns(s, c.way, st, x.inputs, x.keys); got != count {
				t.Errorf("%s: BuildRuns is %d, not %d", name, got, count)
			}
			if count >= 0 {
				st = behind
			} else if !isNoState(behind) {
				t.Errorf("%s: the state behind is %v", name, behind)
			}
		}
		if !sameState(st, c.behind) {
			t.Errorf("the way %d, %s: the state behind is %v, not %v", c.way, c.name, st, c.behind)
		}
	}
}

// again is a build as chapter 6 tells it: st is the state so far, looks are 1 for keys that are being looked at and 2 for those that were, and deep is what the trace used that was taken or put for a key.
type again struct {
	s     impl.Sheet
	way   int
	st    impl.State
	looks [10]int
	deep  [10][]impl.Fetch
	runs  []int
	drops bool
}

// plainStep builds keys again: the build behind it, and whether it can be.
func plainStep(s impl.Sheet, way int, st impl.State, inputs []int, keys []int) (*again, bool) {
	a := &again{s: s, way: way, st: copyState(st)}
	a.st.Inputs = inputsOf(s, inputs)
	for key, made := range s.Made {
		if !made {
			a.st.Values[key] = inputs[key]
			continue
		}
		for _, from := range plainReach(s, []int{key}) {
			for _, in := range plainMay(s.Tasks[from]) {
				if way == impl.WayDirty && in < len(s.Made) && !s.Made[in] && inputs[in] != st.Inputs[in] {
					a.st.Built[key] = false
				}
			}
		}
	}
	if way == impl.WayDeep && !plainSafe(s) {
		return a, false
	}
	for _, key := range keys {
		if _, ok := a.ask(key); !ok {
			return a, false
		}
	}
	return a, true
}

// ask returns the value of a key, and whether it can be.
func (a *again) ask(key int) (int, bool) {
	if key >= len(a.s.Made) {
		return 0, true
	}
	if a.s.Made[key] && a.looks[key] == 0 {
		a.looks[key] = 1
		if !a.look(key) {
			return 0, false
		}
		a.looks[key], a.st.Built[key] = 2, true
	}
	return a.st.Values[key], a.looks[key] != 1
}

// look looks at a made key: it is as it was, takes a value, or is run.
func (a *again) look(key int) bool {
	if a.way == impl.WayDirty && a.st.Built[key] {
		return true
	}
	for _, x := range slices.Clone(a.st.Traces) {
		if x.Key != key || a.way == impl.WayDirty || a.way == impl.WayVerify && !a.st.Built[key] {
			continue
		}
		holds, ok := a.holds(x)
		if !ok {
			return false
		}
		if holds && a.way != impl.WayVerify {
			a.st.Values[key], a.deep[key] = x.Value, x.Used
		}
		if holds {
			return true
		}
		if a.way == impl.WayVerify {
			break // it is the first one that counts
		}
	}
	return a.run(key)
}

// holds reports whether a trace holds, and whether all keys that are looked at for this can be.
func (a *again) holds(x impl.Trace) (bool, bool) {
	if a.way == impl.WayDeep {
		return plainHolds(x, a.st.Values), true
	}
	for _, f := range x.Used {
		value, ok := a.ask(f.Key)
		if !ok || value != f.Value {
			return false, ok
		}
	}
	return true, true
}

// run runs a key.
func (a *again) run(key int) bool {
	x := impl.Trace{Key: key}
	note := func(f impl.Fetch) {
		if !slices.Contains(x.Used, f) {
			x.Used = append(x.Used, f)
		}
	}
	value, ok := plainWalk(a.s.Tasks[key], func(from int) (int, bool) {
		v, ok := a.ask(from)
		if a.way != impl.WayDeep || from >= len(a.s.Made) || !a.s.Made[from] {
			note(impl.Fetch{Key: from, Value: v})
			return v, ok
		}
		for _, f := range a.deep[from] {
			if f.Key >= len(a.s.Made) || !a.s.Made[f.Key] {
				note(f)
			}
		}
		return v, ok
	})
	if !ok {
		return false
	}
	x.Value = value
	a.st.Values[key], a.runs, a.deep[key] = value, append(a.runs, key), x.Used
	a.put(x)
	return true
}

// put puts the trace of a run where the way has it.
func (a *again) put(x impl.Trace) {
	switch a.way {
	case impl.WayVerify:
		if i := slices.IndexFunc(a.st.Traces, func(y impl.Trace) bool { return y.Key == x.Key }); i >= 0 {
			a.st.Traces[i] = x
			return
		}
		a.st.Traces = append(a.st.Traces, x)
	case impl.WayStore, impl.WayDeep:
		if slices.ContainsFunc(a.st.Traces, func(y impl.Trace) bool { return sameTrace(x, y) }) {
			return
		}
		a.st.Traces = append(a.st.Traces, x)
		if len(a.st.Traces) > 60 {
			a.st.Traces, a.drops = a.st.Traces[1:], true
		}
	}
}

// rebuildsNothing reports what is told of a build that is not to be.
func rebuildsNothing(t *testing.T, name string, s impl.Sheet, way int, st impl.State, inputs []int, keys []int) {
	t.Helper()
	if behind, runs, ok := impl.BuildStep(s, way, st, inputs, keys); ok || !isNoState(behind) || len(runs) != 0 {
		t.Errorf("%s, the way %d: BuildStep of %v is %v, %v, %v", name, way, keys, behind, runs, ok)
	}
	if values, ok := impl.BuildOf(s, way, st, inputs, keys); ok || len(values) != 0 {
		t.Errorf("%s, the way %d: BuildOf %v is %v, %v", name, way, keys, values, ok)
	}
	if runs := impl.BuildRuns(s, way, st, inputs, keys); runs != -1 {
		t.Errorf("%s, the way %d: BuildRuns of %v is %d", name, way, keys, runs)
	}
}

// rebuilds reports if a build is not told that is to be.
func rebuilds(t *testing.T, name string, s impl.Sheet, way int, st impl.State, inputs []int, keys []int) {
	t.Helper()
	if _, _, ok := impl.BuildStep(s, way, st, inputs, keys); !ok {
		t.Errorf("%s, the way %d: BuildStep of %v is not told", name, way, keys)
	}
	if _, ok := impl.BuildOf(s, way, st, inputs, keys); !ok {
		t.Errorf("%s, the way %d: BuildOf %v is not told", name, way, keys)
	}
	if runs := impl.BuildRuns(s, way, st, inputs, keys); runs < 0 {
		t.Errorf("%s, the way %d: BuildRuns of %v is %d", name, way, keys, runs)
	}
}

// allKeys returns the keys of a sheet, ascending.
func allKeys(s impl.Sheet) []int {
	keys := make([]int, len(s.Made))
	for key := range keys {
		keys[key] = key
	}
	return keys
}

// allBuilt returns a state in which all made keys of a sheet were built, and all values are 0.
func allBuilt(s impl.Sheet) impl.State {
	return impl.State{Values: make([]int, len(s.Made)), Built: slices.Clone(s.Made), Inputs: make([]int, len(s.Made))}
}

func TestRebuildsOfBadSheets(t *testing.T) {
	for i, s := range badSheets() {
		name := "bad sheet " + strconv.Itoa(i)
		for _, n := range []int{0, 1, 2, len(s.Made), len(s.Tasks)} {
			for _, st := range []impl.State{state(make([]int, n), nil, make([]int, n)), allBuilt(s)} {
				for _, inputs := range [][]int{nil, make([]int, n), slices.Repeat([]int{1}, n), {97}} {
					for _, keys := range [][]int{nil, {0}, {-1}} {
						for _, way := range allWays() {
							rebuildsNothing(t, name, s, way, st, inputs, keys)
						}
					}
					if dirty := impl.DirtyKeys(s, st, inputs); len(dirty) != 0 {
						t.Errorf("%s: DirtyKeys are %v", name, dirty)
					}
				}
			}
		}
	}
}

// A state that is not ok is refused whatever is wrong with it, whether or not a key is asked for.
func TestRebuildsOfBadStates(t *testing.T) {
	refusedBy := func(name string, s impl.Sheet, st impl.State) {
		for _, inputs := range [][]int{make([]int, len(s.Made)), slices.Repeat([]int{1}, len(s.Made))} {
			for _, way := range allWays() {
				rebuildsNothing(t, name, s, way, st, inputs, nil)
				rebuildsNothing(t, name, s, way, st, inputs, allKeys(s))
			}
			if dirty := impl.DirtyKeys(s, st, inputs); len(dirty) != 0 {
				t.Errorf("%s: DirtyKeys are %v", name, dirty)
			}
		}
	}
	bad, good := 0, 0
	for _, c := range stateCases() {
		s := sheet(c.texts...)
		if !c.ok {
			bad++
			refusedBy(c.name, s, c.state)
			continue
		}
		good++
		rebuilds(t, c.name, s, impl.WayDirty, c.state, make([]int, len(s.Made)), nil)
	}
	if bad < 30 || good < 60 {
		t.Errorf("%d states were not ok, %d were", bad, good)
	}
	s := sheet("-", "k0", "-", "7", "(+ k1 6)")
	for i, x := range badTraces() {
		for j, list := range lists(x) {
			st := allBuilt(s)
			st.Traces = list
			refusedBy("bad trace "+strconv.Itoa(i)+" in list "+strconv.Itoa(j), s, st)
		}
	}
	for spoiled, spoil := range []func(st *impl.State){
		func(st *impl.State) { st.Values = append(st.Values, 0) },
		func(st *impl.State) { st.Values = st.Values[:4] },
		func(st *impl.State) { st.Built = append(st.Built, false) },
		func(st *impl.State) { st.Built = st.Built[:4] },
		func(st *impl.State) { st.Inputs = append(st.Inputs, 0) },
		func(st *impl.State) { st.Inputs = st.Inputs[:4] },
		func(st *impl.State) { st.Built[0] = true },
		func(st *impl.State) { st.Values[0] = 1 },
		func(st *impl.State) { st.Inputs[0] = 1 },
		func(st *impl.State) { st.Inputs[1] = 1 },
		func(st *impl.State) { st.Values[1] = 97 },
		func(st *impl.State) { st.Values[1] = -1 },
		func(st *impl.State) { st.Values[0], st.Inputs[0] = 97, 97 },
		func(st *impl.State) { st.Traces = append(st.Traces, trace(0, nil, 0)) },
		func(st *impl.State) { st.Traces = slices.Repeat([]impl.Trace{trace(3, nil, 7)}, 61) },
	} {
		st := allBuilt(s)
		spoil(&st)
		refusedBy("spoiled "+strconv.Itoa(spoiled), s, st)
	}
	if dirty := impl.DirtyKeys(s, allBuilt(s), []int{1, 0, 0, 0, 0}); !slices.Equal(dirty, []int{1, 4}) {
		t.Errorf("DirtyKeys of a state that is ok are %v", dirty)
	}
}

// Inputs that are none are refused also if no key is asked for, or no input; also those of made keys are to be values.
func TestRebuildsOfBadInputs(t *testing.T) {
	for _, texts := range [][]string{nil, {"-"}, {"7"}, {"-", "7"}, {"7", "k0"}, {"-", "k0", "k1"}, slices.Repeat([]string{"-"}, 10), slices.Repeat([]string{"5"}, 10)} {
		s, n := sheet(texts...), len(texts)
		list := append(badValues(), make([]int, n+1), make([]int, n+2), make([]int, 11), make([]int, 10000))
		if n > 0 {
			list = append(list, nil, []int{}, make([]int, n-1), slices.Repeat([]int{1}, n-1))
		}
		for key := range n {
			for _, v := range []int{97, 98, -1, -97, math.MaxInt, math.MinInt} {
				inputs := make([]int, n)
				inputs[key] = v
				list = append(list, inputs)
			}
		}
		for _, inputs := range list {
			name := impl.SheetText(s) + " and bad inputs"
			for _, way := range allWays() {
				rebuildsNothing(t, name, s, way, allBuilt(s), inputs, nil)
				rebuildsNothing(t, name, s, way, allBuilt(s), inputs, allKeys(s))
			}
			if dirty := impl.DirtyKeys(s, allBuilt(s), inputs); len(dirty) != 0 {
				t.Errorf("%s: DirtyKeys are %v", name, dirty)
			}
		}
		for _, way := range allWays() {
			rebuilds(t, impl.SheetText(s), s, way, allBuilt(s), slices.Repeat([]int{96}, n), allKeys(s))
		}
	}
}

// A key that is none of the sheet is refused alone, ahead of others and behind them.
func TestRebuildsOfBadKeys(t *testing.T) {
	for _, texts := range [][]string{nil, {"-"}, {"7"}, {"-", "k0", "k3"}, {"1", "k0", "k1"}, slices.Repeat([]string{"-"}, 10), slices.Repeat([]string{"3"}, 10)} {
		s, n := sheet(texts...), len(texts)
		for _, bad := range []int{-1, -2, n, n + 1, 10, 11, math.MaxInt, math.MinInt} {
			if bad >= 0 && bad < n {
				continue
			}
			for _, asked := range [][]int{{bad}, {bad, bad}, append([]int{bad}, allKeys(s)...), append(allKeys(s), bad), slices.Insert(allKeys(s), n/2, bad)} {
				for _, way := range allWays() {
					rebuildsNothing(t, impl.SheetText(s), s, way, allBuilt(s), make([]int, n), asked)
				}
			}
		}
		for _, way := range allWays() {
			rebuilds(t, impl.SheetText(s), s, way, allBuilt(s), make([]int, n), allKeys(s))
		}
	}
}

func TestRebuildsByNoWay(t *testing.T) {
	for _, texts := range [][]string{nil, {"-"}, {"7"}, {"-", "k0", "k3"}} {
		s := sheet(texts...)
		st, _ := impl.StateStart(s)
		for _, way := range noWays() {
			for _, keys := range [][]int{nil, allKeys(s)} {
				rebuildsNothing(t, impl.SheetText(s), s, way, st, make([]int, len(texts)), keys)
			}
		}
	}
}

// dirtyCase is a sheet, the keys that were built, the inputs of the last build and new ones, and the keys that are not built any more.
type dirtyCase struct {
	name   string
	texts  []string
	built  []int
	old    []int
	inputs []int
	want   []int
}

func TestDirtyKeysCases(t *testing.T) {
	given := []string{"(+ k6 k5)", "-", "(? k1 7 k3)", "-", "8", "(* k1 0)", "(+ k2 1)", "(+ k9 4)"}
	all := []int{0, 2, 4, 5, 6, 7}
	for _, c := range []dirtyCase{
		{"nothing turned", given, all, []int{0, 3, 0, 4, 0, 0, 0, 0}, []int{0, 3, 0, 4, 0, 0, 0, 0}, nil},
		{"the first input", given, all, []int{0, 3, 0, 4, 0, 0, 0, 0}, []int{0, 5, 0, 4, 0, 0, 0, 0}, []int{0, 2, 5, 6}},
		{"the second input, which is not fetched", given, all, []int{0, 3, 0, 4, 0, 0, 0, 0}, []int{0, 3, 0, 5, 0, 0, 0, 0}, []int{0, 2, 6}},
		{"both inputs", given, all, []int{0, 3, 0, 4, 0, 0, 0, 0}, []int{0, 4, 0, 3, 0, 0, 0, 0}, []int{0, 2, 5, 6}},
		{"an input that was 0", given, all, make([]int, 8), []int{0, 0, 0, 96, 0, 0, 0, 0}, []int{0, 2, 6}},
		{"an input that is 0", given, all, []int{0, 96, 0, 0, 0, 0, 0, 0}, make([]int, 8), []int{0, 2, 5, 6}},
		{"inputs of made keys", given, all, make([]int, 8), []int{9, 0, 9, 0, 9, 9, 9, 9}, nil},
		{"inputs of made keys, and one that turned", given, all, make([]int, 8), []int{9, 0, 9, 1, 9, 9, 9, 9}, []int{0, 2, 6}},
		{"only keys that were built", given, []int{0, 4, 5}, []int{0, 3, 0, 4, 0, 0, 0, 0}, []int{0, 5, 0, 4, 0, 0, 0, 0}, []int{0, 5}},
		{"a way by keys that were not built", given, []int{0}, []int{0, 3, 0, 4, 0, 0, 0, 0}, []int{0, 3, 0, 5, 0, 0, 0, 0}, []int{0}},
		{"nothing was built", given, nil, []int{0, 3, 0, 4, 0, 0, 0, 0}, []int{0, 5, 0, 4, 0, 0, 0, 0}, nil},
		{"no keys", nil, nil, nil, nil, nil},
		{"inputs alone", []string{"-", "-"}, nil, []int{1, 2}, []int{2, 1}, nil},
		{"a key that is reckoned", []string{"-", "(@0 0)", "7", "k2"}, []int{1, 2, 3}, make([]int, 4), []int{1, 0, 0, 0}, []int{1}},
		{"a key on one that is reckoned", []string{"-", "(@0 0)", "7", "k1"}, []int{2, 3}, make([]int, 4), []int{1, 0, 0, 0}, []int{3}},
		{"a ring", []string{"k1", "k0", "-"}, []int{0, 1}, make([]int, 3), []int{0, 0, 1}, nil},
		{"a ring that fetches an input", []string{"k1", "k2", "(+ k0 k4)", "k3", "-"}, []int{0, 1, 2, 3}, make([]int, 5), []int{0, 0, 0, 0, 1}, []int{0, 1, 2}},
		{"a long chain down", []string{"k1", "k2", "k3", "k4", "k5", "k6", "k7", "k8", "k9", "-"}, []int{0, 1, 2, 3, 4, 5, 6, 7, 8}, make([]int, 10), []int{0, 0, 0, 0, 0, 0, 0, 0, 0, 1}, []int{0, 1, 2, 3, 4, 5, 6, 7, 8}},
		{"a long chain up", []string{"-", "k0", "k1", "k2", "k3", "k4", "k5", "k6", "k7", "k8"}, []int{9, 1, 5}, make([]int, 10), []int{1, 0, 0, 0, 0, 0, 0, 0, 0, 0}, []int{1, 5, 9}},
		{"a key beyond the sheet", []string{"-", "(+ k0 k2)", "k3"}, []int{1, 2}, make([]int, 3), []int{1, 0, 0}, []int{1}},
	} {
		s, st := sheet(c.texts...), state(slices.Clone(c.old), c.built, c.old)
		checkOrder(t, c.name, impl.DirtyKeys(s, st, c.inputs), true, c.want)
		// Traces, and the values of keys that were built, do not matter.
		for key, made := range s.Made {
			if made {
				st.Values[key] = 50
				st.Traces = append(st.Traces, trace(key, nil, 50))
			}
		}
		checkOrder(t, c.name+", with traces", impl.DirtyKeys(s, st, c.inputs), true, c.want)
		behind, runs, ok := impl.BuildStep(s, impl.WayDirty, st, c.inputs, nil)
		for key, was := range st.Built {
			if want := was && !slices.Contains(c.want, key); !ok || len(runs) > 0 || behind.Built[key] != want {
				t.Errorf("%s: behind a build of no keys %v are built", c.name, behind.Built)
			}
		}
	}
}

// Each of nine keys fetches the one ahead of it eight times, and many traces used it: it is looked at once all the same.
func TestRebuildsThatAreLong(t *testing.T) {
	s, st := sheet("-"), impl.State{}
	for key := range 9 {
		s.Made, s.Tasks = append(s.Made, true), append(s.Tasks, sumLeft(8, get(key)))
	}
	st, _ = impl.StateStart(s)
	for key := 1; key < 10; key++ {
		for n := range 6 {
			st.Traces = append(st.Traces, trace(key, pairs{{key - 1, 90 + n}, {(key + 1) % 10, 0}}, 7))
		}
	}
	inputs, power, want := make([]int, 10), 1, []int{1, 2, 3, 4, 5, 6, 7, 8, 9}
	for inputs[0] = range 97 {
		power = inputs[0]
		for range 9 {
			power = power * 8 % 97
		}
		for _, way := range allWays() {
			first, _ := impl.StateStart(s)
			behind, runs, ok := impl.BuildStep(s, way, first, inputs, []int{9, 9})
			if !ok || !slices.Equal(runs, want) || behind.Values[9] != power {
				t.Errorf("BuildStep by the way %d is %v, %v, %v", way, behind, runs, ok)
			}
			if runs := impl.BuildRuns(s, way, behind, inputs, []int{9}); runs != 0 {
				t.Errorf("BuildRuns by the way %d once more is %d", way, runs)
			}
			a, told := plainStep(s, way, st, inputs, []int{9})
			if got, _, ok := impl.BuildStep(s, way, st, inputs, []int{9}); ok != told || ok && !sameState(got, a.st) {
				t.Errorf("BuildStep with traces by the way %d with %v is %v, %v", way, inputs, got, ok)
			}
		}
	}
}

// deepUsed returns the inputs, and keys beyond the sheet, that are fetched when a key of a safe sheet is built from nothing, each once.
func deepUsed(s impl.Sheet, inputs []int, key int) []impl.Fetch {
	var used []impl.Fetch
	plainWalk(s.Tasks[key], func(from int) (int, bool) {
		list := []impl.Fetch{{Key: from}}
		value, _ := plainBuild(s, inputs, from, nil)
		if list[0].Value = value; from < len(s.Made) && s.Made[from] {
			list = deepUsed(s, inputs, from)
		}
		for _, f := range list {
			if !slices.Contains(used, f) {
				used = append(used, f)
			}
		}
		return value, true
	})
	return used
}

// soundState makes a state that fits a way. By WayDeep its traces used all inputs on which their value depends, and some of them more: one that left out an input may fit, but is wrong with other inputs.
func soundState(r *rand.Rand, s impl.Sheet, way int) impl.State {
	st := fittingState(r, s, way)
	if way != impl.WayDeep {
		return st
	}
	st.Traces = nil
	for key, made := range s.Made {
		for range r.Intn(4) {
			inputs := randomInputs(r, s)
			if r.Intn(2) == 0 {
				inputs = st.Inputs
			}
			if !made || !plainSafe(s) {
				continue
			}
			value, _ := plainBuild(s, inputs, key, nil)
			used := deepUsed(s, inputs, key)
			for more := range 10 {
				if r.Intn(6) == 0 && !slices.Contains(keysOf(used), more) && (more >= len(s.Made) || !s.Made[more]) {
					used = slices.Insert(used, r.Intn(len(used)+1), impl.Fetch{Key: more, Value: plainValue(inputs, more)})
				}
			}
			st.Traces = append(st.Traces, impl.Trace{Key: key, Used: used, Value: value})
		}
	}
	return st
}

// fillTraces puts traces behind those of a state, by a way that takes any that are honest, till there are about as many as there may be.
func fillTraces(r *rand.Rand, s impl.Sheet, way int, st impl.State) impl.State {
	most := 58 + r.Intn(3)
	if way < impl.WayStore || len(st.Traces) == 0 {
		return st
	}
	for n := len(st.Traces); len(st.Traces) < most; {
		st.Traces = append(st.Traces, copyTraces(st.Traces[r.Intn(n):])...)
	}
	st.Traces = st.Traces[:most]
	return st
}

// randomKeys makes a list of keys of a sheet: none, few, all, and some of them twice.
func randomKeys(r *rand.Rand, s impl.Sheet) []int {
	keys := r.Perm(len(s.Made))
	keys = keys[:r.Intn(len(keys)+1)]
	for range len(keys) / 3 {
		keys = append(keys, keys[r.Intn(len(keys))])
	}
	return keys
}

// turnInputs returns inputs of a sheet of which one or two may have turned.
func turnInputs(r *rand.Rand, s impl.Sheet, inputs []int) []int {
	inputs = slices.Clone(inputs)
	for range r.Intn(3) {
		if key := slices.Index(s.Made, false); key >= 0 {
			for s.Made[key] || r.Intn(3) == 0 {
				key = r.Intn(len(s.Made))
			}
			inputs[key] = r.Intn(3)
		}
	}
	return inputs
}

// busySheet makes a sheet whose tasks fetch much: keys that come later in some order, keys that are not there, and now and then any key.
func busySheet(r *rand.Rand) impl.Sheet {
	keys := 3 + r.Intn(8)
	s := impl.Sheet{Made: make([]bool, keys), Tasks: make([]impl.Task, keys)}
	order, wild := r.Perm(impl.KeysMost), r.Intn(3) == 0
	for i, key := range order {
		later := order[i+1:]
		if key >= keys || len(later) == 0 || r.Intn(3) == 0 {
			continue
		}
		leaf := func() impl.Task {
			switch {
			case r.Intn(6) == 0:
				return num(r.Intn(3))
			case wild && r.Intn(8) == 0:
				return get(order[r.Intn(len(order))])
			}
			return get(later[r.Intn(len(later))])
		}
		forms := []impl.Task{leaf(), add(leaf(), leaf()), mul(leaf(), leaf()), choose(leaf(), leaf(), leaf()), choose(mul(leaf(), leaf()), add(leaf(), leaf()), leaf())}
		s.Made[key], s.Tasks[key] = true, forms[r.Intn(len(forms))]
	}
	return s
}

// eachBuild calls f with builds of so many sheets by each way that begin with states that fit it, or, if wild, are ok; builds follow each other, with inputs that turn, and turn back. It ends with the first one that is wrong, for there are many.
func eachBuild(t *testing.T, sheets int, wild bool, f func(r *rand.Rand, s impl.Sheet, way int, st impl.State, inputs []int, keys []int)) {
	r := rand.New(rand.NewSource(11))
	for range sheets {
		s := randomSheet(r)
		if r.Intn(2) == 0 {
			s = busySheet(r)
		}
		pool := [][]int{randomInputs(r, s)}
		pool = append(pool, turnInputs(r, s, pool[0]))
		pool = append(pool, turnInputs(r, s, pool[1]))
		for _, way := range allWays() {
			first, _ := impl.StateStart(s)
			list := []impl.State{first, soundState(r, s, way), fillTraces(r, s, way, soundState(r, s, way))}
			if wild {
				list = append(list, fittingState(r, s, impl.WayDeep), spoilState(r, list[1]), spoilState(r, fittingState(r, s, r.Intn(4))), tangledState(r, s))
			}
			for _, st := range list {
				for range 4 {
					inputs, keys := pool[r.Intn(3)], randomKeys(r, s)
					if !plainStateOk(s, st) {
						break
					}
					if f(r, s, way, st, inputs, keys); t.Failed() {
						return
					}
					if a, ok := plainStep(s, way, st, inputs, keys); ok {
						st = a.st
					}
				}
			}
		}
	}
}

// tangledState makes a state that is ok, and whose traces are mostly not honest: they used any keys, with few values.
func tangledState(r *rand.Rand, s impl.Sheet) impl.State {
	st := fittingState(r, s, impl.WayStore)
	st.Traces = nil
	for key, made := range s.Made {
		for range r.Intn(4) {
			x := impl.Trace{Key: key, Value: r.Intn(3)}
			for _, used := range r.Perm(10)[:r.Intn(4)] {
				x.Used = append(x.Used, impl.Fetch{Key: used, Value: r.Intn(3)})
			}
			if made {
				st.Traces = append(st.Traces, x)
			}
		}
	}
	r.Shuffle(len(st.Traces), func(i, j int) { st.Traces[i], st.Traces[j] = st.Traces[j], st.Traces[i] })
	return st
}

// Builds of all kinds of states are as the chapters tell them.
func TestRebuildsAsTold(t *testing.T) {
	var told, not, unfit, drops, some, none [4]int
	eachBuild(t, 400, true, func(r *rand.Rand, s impl.Sheet, way int, st impl.State, inputs []int, keys []int) {
		a, want := plainStep(s, way, st, inputs, keys)
		if !want {
			not[way]++
			rebuildsNothing(t, impl.SheetText(s), s, way, st, inputs, keys)
			return
		}
		told[way]++
		behind, runs, ok := impl.BuildStep(s, way, st, inputs, keys)
		if !ok || !sameState(behind, a.st) || !slices.Equal(runs, a.runs) {
			t.Errorf("BuildStep of %v in %q by the way %d from %v with %v is %v, %v, %v, not %v, %v", keys, impl.SheetText(s), way, st, inputs, behind, runs, ok, a.st, a.runs)
		}
		values, ok := impl.BuildOf(s, way, st, inputs, keys)
		for i, key := range keys {
			if !ok || len(values) != len(keys) || values[i] != a.st.Values[key] {
				t.Errorf("BuildOf %v in %q by the way %d from %v with %v is %v, %v", keys, impl.SheetText(s), way, st, inputs, values, ok)
				break
			}
		}
		if got := impl.BuildRuns(s, way, st, inputs, keys); got != len(a.runs) {
			t.Errorf("BuildRuns of %v in %q by the way %d from %v with %v is %d, not %d", keys, impl.SheetText(s), way, st, inputs, got, len(a.runs))
		}
		if !plainStateFits(s, way, st) {
			unfit[way]++
		}
		if a.drops {
			drops[way]++
		}
		if len(a.runs) > 0 && len(a.runs) < len(plainReach(s, keys)) {
			some[way]++
		}
		if len(a.runs) == 0 && len(plainReach(s, keys)) > 1 {
			none[way]++
		}
	})
	if slices.Min(told[:]) < 5000 || slices.Min(not[:]) < 200 || slices.Min(unfit[:]) < 500 || slices.Min(some[:]) < 500 || slices.Min(none[:]) < 100 || drops[impl.WayStore] < 100 || drops[impl.WayDeep] < 100 {
		t.Errorf("builds by each way: %v were told, %v were not, %v were of states that do not fit, %v dropped traces, %v ran some of the keys, %v none of many", told, not, unfit, drops, some, none)
	}
}

// Promise 31: if StateFits holds, each key that was built in a safe sheet has the value of BuildKey with the inputs behind it; no key is run twice; and StateFits holds behind it. By WayVerify and WayStore, as long as no trace is dropped, a key is run only if no trace of it that was kept holds for BuildAll.
func TestPromise31(t *testing.T) {
	var safe, not, saved, kept [4]int
	eachBuild(t, 600, false, func(r *rand.Rand, s impl.Sheet, way int, st impl.State, inputs []int, keys []int) {
		name := func() string {
			return impl.SheetText(s) + " by the way " + strconv.Itoa(way) + " with " + strconv.Itoa(len(st.Traces)) + " traces"
		}
		if !impl.StateFits(s, way, st) {
			t.Errorf("%s: StateFits of %v is false", name(), st)
		}
		behind, runs, ok := impl.BuildStep(s, way, st, inputs, keys)
		if !ok {
			return
		}
		for i, key := range runs {
			if slices.Contains(runs[i+1:], key) || !s.Made[key] || !behind.Built[key] {
				t.Errorf("%s: %v are run", name(), runs)
			}
		}
		if !impl.StateFits(s, way, behind) {
			t.Errorf("%s: StateFits of %v behind a build of %v from %v is false", name(), behind, keys, st)
		}
		if !impl.SheetSafe(s) {
			not[way]++
			return
		}
		safe[way]++
		a, _ := plainStep(s, way, st, inputs, keys)
		for key, made := range s.Made {
			looked := a.looks[key] == 2 || slices.Contains(keys, key) || way == impl.WayDirty && behind.Built[key]
			if value, ok := impl.BuildKey(s, behind.Inputs, key); made && looked && (!ok || value != behind.Values[key] || !behind.Built[key]) {
				t.Errorf("%s: behind a build of %v from %v the key %d has %d, not %d", name(), keys, st, key, behind.Values[key], value)
			}
			if !made && (behind.Inputs[key] != inputs[key] || behind.Values[key] != inputs[key]) {
				t.Errorf("%s: behind a build with %v the input %d is %d", name(), inputs, key, behind.Inputs[key])
			}
			if made && a.looks[key] == 2 && !slices.Contains(runs, key) {
				kept[way]++
			}
		}
		if way != impl.WayVerify && way != impl.WayStore || len(st.Traces)+len(runs) > impl.TracesMost {
			return
		}
		values, _, _ := plainAll(s, inputs)
		for _, x := range st.Traces {
			if !plainHolds(x, values) {
				saved[way]++
			} else if slices.Contains(runs, x.Key) {
				t.Errorf("%s: %d is run, though %v holds for %v", name(), x.Key, x, values)
			}
		}
	})
	if slices.Min(safe[:]) < 2000 || slices.Min(not[:3]) < 500 || slices.Min(kept[:]) < 1000 || saved[impl.WayVerify] < 1000 || saved[impl.WayStore] < 1000 {
		t.Errorf("builds by each way: %v of safe sheets, %v of others, %v keys as they were, %v traces that did not hold", safe, not, kept, saved)
	}
}

// Promise 32: if StateFits holds for a safe sheet, BuildOf are the values of BuildKey.
func TestPromise32(t *testing.T) {
	var safe, stale [4]int
	eachBuild(t, 600, false, func(r *rand.Rand, s impl.Sheet, way int, st impl.State, inputs []int, keys []int) {
		if !impl.SheetSafe(s) || !impl.StateFits(s, way, st) {
			return
		}
		safe[way]++
		values, ok := impl.BuildOf(s, way, st, inputs, keys)
		if !ok || len(values) != len(keys) {
			t.Errorf("BuildOf %v in %q by the way %d from %v with %v is %v, %v", keys, impl.SheetText(s), way, st, inputs, values, ok)
			return
		}
		for i, key := range keys {
			want, _ := impl.BuildKey(s, inputs, key)
			if plain, _ := plainBuild(s, inputs, key, nil); values[i] != want || plain != want {
				t.Errorf("BuildOf %v in %q by the way %d from %v with %v is %v: the key %d has %d", keys, impl.SheetText(s), way, st, inputs, values, key, want)
			}
			if st.Built[key] && st.Values[key] != want {
				stale[way]++
			}
		}
	})
	if slices.Min(safe[:]) < 2000 || slices.Min(stale[:]) < 300 {
		t.Errorf("builds by each way: %v were of safe sheets, in which %v keys had been built with another value", safe, stale)
	}
}

// Promise 33: behind a build in which no trace is dropped the same build runs nothing, if StateFits holds.
func TestPromise33(t *testing.T) {
	var told, full, run [4]int
	check := func(s impl.Sheet, way int, st impl.State, inputs []int, keys []int) {
		behind, runs, ok := impl.BuildStep(s, way, st, inputs, keys)
		if !ok {
			return
		}
		if way >= impl.WayStore && len(st.Traces)+len(runs) > impl.TracesMost {
			full[way]++
			return
		}
		told[way]++
		if len(runs) > 0 {
			run[way]++
		}
		again, runs, ok := impl.BuildStep(s, way, behind, inputs, keys)
		if !ok || len(runs) != 0 || !sameState(again, behind) {
			t.Errorf("BuildStep of %v in %q by the way %d from %v with %v once more runs %v, and tells %v, not %v", keys, impl.SheetText(s), way, st, inputs, runs, again, behind)
		}
		if got := impl.BuildRuns(s, way, behind, inputs, keys); got != 0 {
			t.Errorf("BuildRuns of %v in %q by the way %d from %v with %v once more is %d", keys, impl.SheetText(s), way, st, inputs, got)
		}
	}
	eachBuild(t, 600, false, func(r *rand.Rand, s impl.Sheet, way int, st impl.State, inputs []int, keys []int) {
		check(s, way, st, inputs, keys)
	})
	eachState(func(r *rand.Rand, s impl.Sheet, way int, st impl.State) {
		check(s, way, st, randomInputs(r, s), randomKeys(r, s))
	})
	if slices.Min(told[:]) < 4000 || slices.Min(run[:]) < 2000 || full[impl.WayStore] < 50 || full[impl.WayDeep] < 50 {
		t.Errorf("builds by each way: %v were done once more, of which %v ran keys at first, %v may have dropped traces", told, run, full)
	}
}

// Promise 34: DirtyKeys are built ones; with the inputs of the state there are none.
func TestPromise34(t *testing.T) {
	dirty, clean, left := 0, 0, 0
	eachBuild(t, 400, true, func(r *rand.Rand, s impl.Sheet, way int, st impl.State, inputs []int, keys []int) {
		if got := impl.DirtyKeys(s, st, st.Inputs); len(got) != 0 {
			t.Errorf("DirtyKeys of %v in %q with its inputs are %v", st, impl.SheetText(s), got)
		}
		got := impl.DirtyKeys(s, st, inputs)
		a, _ := plainStep(s, impl.WayDirty, st, inputs, nil)
		var want []int
		for key, was := range st.Built {
			if was && !a.st.Built[key] {
				want = append(want, key)
			}
			if was && a.st.Built[key] {
				left++
			}
		}
		if !slices.Equal(got, want) {
			t.Errorf("DirtyKeys of %v in %q with %v are %v, not %v", st, impl.SheetText(s), inputs, got, want)
		}
		for i, key := range got {
			if !s.Made[key] || !st.Built[key] || i > 0 && got[i-1] >= key {
				t.Errorf("DirtyKeys of %v in %q with %v are %v", st, impl.SheetText(s), inputs, got)
			}
		}
		if len(got) > 1 {
			dirty++
		} else if len(got) == 0 {
			clean++
		}
	})
	if dirty < 5000 || clean < 5000 || left < 5000 {
		t.Errorf("%d times keys were not built any more, %d times there were none, and %d keys stayed built", dirty, clean, left)
	}
}

// Arguments are not changed, not even behind the ends of their lists.
func TestRebuildsChangeNothing(t *testing.T) {
	eachBuild(t, 150, true, func(r *rand.Rand, s impl.Sheet, way int, st impl.State, inputs []int, keys []int) {
		n, before := len(st.Values), copySheet(s)
		values, built, old := append(slices.Clone(st.Values), 11), append(slices.Clone(st.Built), true), append(slices.Clone(st.Inputs), 12)
		in, asked, space := append(slices.Clone(inputs), 13), append(slices.Clone(keys), 14), spread(st.Traces)
		keptIn, keptAsked, kept := slices.Clone(in), slices.Clone(asked), behindEnds(space)
		short := impl.State{Values: values[:n], Built: built[:n], Inputs: old[:n], Traces: space[:len(st.Traces)]}
		impl.BuildStep(s, way, short, in[:n], asked[:len(keys)])
		impl.BuildOf(s, way, short, in[:n], asked[:len(keys)])
		impl.BuildRuns(s, way, short, in[:n], asked[:len(keys)])
		impl.DirtyKeys(s, short, in[:n])
		if !sameSheet(s, before) || !sameState(short, st) || values[n] != 11 || !built[n] || old[n] != 12 || !sameTraces(behindEnds(space), kept) {
			t.Errorf("%v in %q was changed", st, impl.SheetText(before))
		}
		if !slices.Equal(in, keptIn) || !slices.Equal(asked, keptAsked) {
			t.Errorf("%v or %v was changed", inputs, keys)
		}
	})
}

// Results share no memory with arguments or each other, not even behind their ends.
func TestRebuildsShareNothing(t *testing.T) {
	eachBuild(t, 150, false, func(r *rand.Rand, s impl.Sheet, way int, st impl.State, inputs []int, keys []int) {
		before, was, keptIn, keptKeys := copySheet(s), copyState(st), slices.Clone(inputs), slices.Clone(keys)
		next, runs, ok := impl.BuildStep(s, way, st, inputs, keys)
		if !ok {
			return
		}
		want, wantRuns := copyState(next), slices.Clone(runs)
		first, firstRuns, _ := impl.BuildStep(s, way, st, inputs, keys)
		overwrite(firstRuns)
		if !sameState(first, want) {
			t.Errorf("the state and the runs of BuildStep of %v in %q share memory", keptKeys, impl.SheetText(before))
		}
		overwriteState(first)
		third, _, _ := impl.BuildStep(s, way, next, inputs, keys)
		overwriteState(third)
		values, _ := impl.BuildOf(s, way, st, inputs, keys)
		overwrite(values)
		overwrite(impl.DirtyKeys(s, st, inputs))
		if !sameState(next, want) || !slices.Equal(runs, wantRuns) || !sameState(st, was) || !sameSheet(s, before) || !slices.Equal(inputs, keptIn) || !slices.Equal(keys, keptKeys) {
			t.Errorf("results of builds of %v in %q by the way %d share memory", keptKeys, impl.SheetText(before), way)
		}
		for i := range next.Traces {
			overwriteTraces(next.Traces[i : i+1 : i+1])
			want.Traces[i] = next.Traces[i]
			if !sameState(next, want) {
				t.Errorf("the trace %d behind a build of %v in %q shares memory", i, keys, impl.SheetText(s))
			}
		}
		lists := []impl.State{{Values: next.Values}, {Built: next.Built}, {Inputs: next.Inputs}}
		for i, want := range []impl.State{{Built: want.Built, Inputs: want.Inputs}, {Inputs: want.Inputs}, {}} {
			overwriteState(lists[i])
			rest := []impl.State{{Built: next.Built, Inputs: next.Inputs}, {Inputs: next.Inputs}, {}}[i]
			if !sameState(rest, want) || !slices.Equal(runs, wantRuns) {
				t.Errorf("lists behind a build of %v in %q share memory", keys, impl.SheetText(s))
			}
		}
	})
}
