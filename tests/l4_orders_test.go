package tests

import (
	"math"
	"math/rand"
	"slices"
	"strconv"
	"strings"
	"testing"

	"loop.example/buildroads/impl"
)

// noOrder stands for an order that is not told.
func noOrder() []int { return []int{noNumber} }

// orderCase is a sheet with inputs, keys that are asked for, and the orders that are told of them.
type orderCase struct {
	name    string
	texts   []string
	inputs  []int
	keys    []int
	topo    []int
	suspend []int
	restart []int
}

func orderCases() []orderCase {
	list := append(plainOrders(), askedOrders()...)
	return append(append(list, seenOrders()...), failingOrders()...)
}

// plainOrders are of sheets without choices, each key being asked for once.
func plainOrders() []orderCase {
	given := []string{"-", "(+ k2 1)", "(* k0 k0)"}
	later := []string{"(+ k3 1)", "k4", "9", "8", "-"}
	row := []string{"k1", "k2", "k3", "4"}
	both := []string{"(+ k2 k1)", "4", "5"}
	diamond := []string{"(+ k1 k2)", "(* k3 2)", "(* k3 3)", "(+ k4 1)", "-"}
	ten := []string{"k1", "k2", "k3", "k4", "k5", "k6", "k7", "k8", "k9", "1"}
	up, down := []int{0, 1, 2, 3, 4, 5, 6, 7, 8, 9}, []int{9, 8, 7, 6, 5, 4, 3, 2, 1, 0}
	return []orderCase{
		{"one behind the other", given, []int{3, 0, 0}, []int{1}, []int{2, 1}, []int{2, 1}, []int{1, 2, 1}},
		{"only what is needed", given, []int{3, 0, 0}, []int{2}, []int{2}, []int{2}, []int{2}},
		{"an input", given, []int{3, 0, 0}, []int{0}, nil, nil, nil},
		{"an input alone", []string{"-"}, []int{3}, []int{0}, nil, nil, nil},
		{"a made key that fetches nothing", []string{"7"}, []int{0}, []int{0}, []int{0}, []int{0}, []int{0}},
		{"a made key that fetches inputs alone", []string{"-", "(* k0 k2)", "-"}, []int{1, 0, 2}, []int{1}, []int{1}, []int{1}, []int{1}},
		{"keys that are not there", []string{"(+ k1 (* k5 k9))"}, []int{0}, []int{0}, []int{0}, []int{0}, []int{0}},
		{"fetched twice by one task", []string{"(+ k1 k1)", "3"}, []int{0, 0}, []int{0}, []int{1, 0}, []int{1, 0}, []int{0, 1, 0}},
		{"a row", row, []int{0, 0, 0, 0}, []int{0}, []int{3, 2, 1, 0}, []int{3, 2, 1, 0}, []int{0, 1, 2, 3, 2, 1, 0}},
		{"the end of a row", row, []int{0, 0, 0, 0}, []int{2}, []int{3, 2}, []int{3, 2}, []int{2, 3, 2}},
		{"the greater one is fetched first", both, []int{0, 0, 0}, []int{0}, []int{1, 2, 0}, []int{2, 1, 0}, []int{0, 2, 0, 1, 0}},
		{"a diamond", diamond, []int{0, 0, 0, 0, 1}, []int{0}, []int{3, 1, 2, 0}, []int{3, 1, 2, 0}, []int{0, 1, 3, 1, 0, 2, 0}},
		{"a diamond, from its sides", diamond, []int{0, 0, 0, 0, 1}, []int{2, 1}, []int{3, 1, 2}, []int{3, 2, 1}, []int{2, 3, 2, 1}},
		{"the second one fetched is fetched by the first", []string{"(+ k1 k2)", "k2", "1"}, []int{0, 0, 0}, []int{0}, []int{2, 1, 0}, []int{2, 1, 0}, []int{0, 1, 2, 1, 0}},
		{"three of one task", []string{"(+ k3 (+ k1 k2))", "1", "2", "3"}, []int{0, 0, 0, 0}, []int{0}, []int{1, 2, 3, 0}, []int{3, 1, 2, 0}, []int{0, 3, 0, 1, 0, 2, 0}},
		{"the least of those that are free", later, []int{0, 0, 0, 0, 0}, []int{2, 1, 0}, []int{1, 2, 3, 0}, []int{2, 1, 3, 0}, []int{2, 1, 0, 3, 0}},
		{"what is free then goes ahead of greater ones", []string{"k3", "-", "-", "1", "2", "k3"}, make([]int, 6), []int{4, 5, 0}, []int{3, 0, 4, 5}, []int{4, 3, 5, 0}, []int{4, 5, 3, 5, 0}},
		{"ten keys", ten, make([]int, 10), []int{0}, down, down, append(slices.Clone(up), down[1:]...)},
		{"ten keys, each asked for", ten, make([]int, 10), down, down, down, down},
		{"ten keys that fetch nothing", slices.Repeat([]string{"7"}, 10), make([]int, 10), down, up, down, down},
	}
}

// askedOrders are of no keys, and of keys that are asked for more than once.
func askedOrders() []orderCase {
	given := []string{"-", "(+ k2 1)", "(* k0 k0)"}
	row := []string{"k1", "k2", "k3", "4"}
	return []orderCase{
		{"no keys of no keys", nil, nil, nil, nil, nil, nil},
		{"no keys", given, []int{3, 0, 0}, nil, nil, nil, nil},
		{"no keys, which are empty", given, []int{3, 0, 0}, []int{}, nil, nil, nil},
		{"one twice", []string{"7"}, []int{0}, []int{0, 0}, []int{0}, []int{0}, []int{0}},
		{"one many times", []string{"7"}, []int{0}, make([]int, 100000), []int{0}, []int{0}, []int{0}},
		{"an input twice", given, []int{3, 0, 0}, []int{0, 0}, nil, nil, nil},
		{"one that waits, twice", given, []int{3, 0, 0}, []int{1, 1}, []int{2, 1}, []int{2, 1}, []int{1, 2, 1}},
		{"what was fetched is asked for", given, []int{3, 0, 0}, []int{1, 2}, []int{2, 1}, []int{2, 1}, []int{1, 2, 1}},
		{"what is fetched was asked for", given, []int{3, 0, 0}, []int{2, 1}, []int{2, 1}, []int{2, 1}, []int{2, 1}},
		{"all of them, again and again", given, []int{3, 0, 0}, []int{0, 1, 0, 2, 1, 1, 2, 0}, []int{2, 1}, []int{2, 1}, []int{1, 2, 1}},
		{"from the middle of a row, and then from its head", row, []int{0, 0, 0, 0}, []int{2, 0, 2, 1, 0}, []int{3, 2, 1, 0}, []int{3, 2, 1, 0}, []int{2, 3, 2, 0, 1, 0}},
		{"more times than there are keys", row, []int{0, 0, 0, 0}, []int{3, 3, 3, 3, 3, 3, 1, 3, 3, 3, 3, 3}, []int{3, 2, 1}, []int{3, 2, 1}, []int{3, 1, 2, 1}},
	}
}

// seenOrders are of keys that may be fetched, but are not with all inputs.
func seenOrders() []orderCase {
	choice := []string{"(? k3 k1 k2)", "5", "6", "-"}
	decided := []string{"(? k3 k1 k2)", "k2", "6", "(* k4 k4)", "-"}
	return []orderCase{
		{"a choice, the first", choice, []int{0, 0, 0, 9}, []int{0}, []int{1, 2, 0}, []int{1, 0}, []int{0, 1, 0}},
		{"a choice, the second", choice, []int{0, 0, 0, 0}, []int{0}, []int{1, 2, 0}, []int{2, 0}, []int{0, 2, 0}},
		{"a choice, and what is not chosen behind it", choice, []int{0, 0, 0, 0}, []int{0, 1}, []int{1, 2, 0}, []int{2, 0, 1}, []int{0, 2, 0, 1}},
		{"a choice that a made key decides, the first", decided, []int{0, 0, 0, 0, 2}, []int{0}, []int{2, 1, 3, 0}, []int{3, 2, 1, 0}, []int{0, 3, 0, 1, 2, 1, 0}},
		{"a choice that a made key decides, the second", decided, []int{0, 0, 0, 0, 0}, []int{0}, []int{2, 1, 3, 0}, []int{3, 2, 0}, []int{0, 3, 0, 2, 0}},
		{"a choice between inputs", []string{"(? k1 k1 k2)", "-", "-"}, []int{0, 0, 3}, []int{0}, []int{0}, []int{0}, []int{0}},
		{"a choice that a number decides", []string{"(? 0 k1 k2)", "1", "2"}, []int{0, 0, 0}, []int{0}, []int{1, 2, 0}, []int{2, 0}, []int{0, 2, 0}},
		{"a choice that a key that is not there decides", []string{"(? k9 k1 k2)", "1", "2"}, []int{0, 0, 0}, []int{0}, []int{1, 2, 0}, []int{2, 0}, []int{0, 2, 0}},
	}
}

// failingOrders are of sheets that are not safe, of which some keys are built.
func failingOrders() []orderCase {
	no := noOrder()
	beside := []string{"5", "k1", "(+ k0 1)"}
	either := []string{"(? k2 7 k1)", "(? k2 k0 8)", "-"}
	reckoned := []string{"(@1 k2)", "5", "-"}
	return []orderCase{
		{"itself", []string{"k0"}, []int{0}, []int{0}, no, no, no},
		{"no keys of a sheet that is not safe", []string{"k0"}, []int{0}, nil, no, nil, no},
		{"a key that fails", beside, []int{0, 0, 0}, []int{1}, no, no, no},
		{"a key that fails, behind keys that are built", beside, []int{0, 0, 0}, []int{2, 0, 1}, no, no, no},
		{"a key that fails, ahead of others", beside, []int{0, 0, 0}, []int{1, 0}, no, no, no},
		{"beside a key that fails", beside, []int{0, 0, 0}, []int{2, 0}, no, []int{0, 2}, no},
		{"a key that fails behind what it fetched", []string{"(+ k1 k2)", "1", "k0"}, []int{0, 0, 0}, []int{0}, no, no, no},
		{"not safe, but built, the first way", either, []int{0, 0, 1}, []int{1, 0}, no, []int{0, 1}, no},
		{"not safe, but built, the second way", either, []int{0, 0, 0}, []int{0, 1}, no, []int{1, 0}, no},
		{"not looked at", []string{"(? 0 k0 7)"}, []int{0}, []int{0, 0}, no, []int{0}, no},
		{"looked at", []string{"(? 1 k0 7)"}, []int{0}, []int{0, 0}, no, no, no},
		{"a key that is reckoned", reckoned, []int{0, 0, 0}, []int{0}, no, []int{1, 0}, no},
		{"a key that is reckoned: an input", reckoned, []int{0, 0, 1}, []int{0}, no, []int{0}, no},
		{"a key that is reckoned: not there", reckoned, []int{0, 0, 3}, []int{0, 1}, no, []int{0, 1}, no},
		{"a key that is reckoned: itself", reckoned, []int{0, 0, 9}, []int{1, 0}, no, no, no},
		{"a key that is reckoned by a made one", []string{"(@0 k3)", "2", "4", "(+ k1 0)"}, []int{0, 0, 0, 0}, []int{0}, no, []int{1, 3, 2, 0}, no},
	}
}

// checkOrder compares an order with what is to be told.
func checkOrder(t *testing.T, name string, got []int, ok bool, want []int) {
	t.Helper()
	if slices.Equal(want, noOrder()) {
		if ok || len(got) != 0 {
			t.Errorf("%s is %v, %v, but is not to be told", name, got, ok)
		}
		return
	}
	if !ok || !slices.Equal(got, want) {
		t.Errorf("%s is %v, %v, not %v", name, got, ok, want)
	}
}

func TestOrderCases(t *testing.T) {
	for _, c := range orderCases() {
		s := sheet(c.texts...)
		topo, okTopo := impl.OrderTopo(s, c.keys)
		checkOrder(t, c.name+": OrderTopo", topo, okTopo, c.topo)
		suspend, okSuspend := impl.OrderSuspend(s, c.inputs, c.keys)
		checkOrder(t, c.name+": OrderSuspend", suspend, okSuspend, c.suspend)
		restart, okRestart := impl.OrderRestart(s, c.inputs, c.keys)
		checkOrder(t, c.name+": OrderRestart", restart, okRestart, c.restart)
	}
}

func TestOrderFitsCases(t *testing.T) {
	given := []string{"-", "(+ k2 1)", "(* k0 k0)"}
	choice := []string{"(? k3 k1 k2)", "5", "6", "-"}
	either := []string{"(? k2 7 k1)", "(? k2 k0 8)", "-"}
	for _, c := range []struct {
		name   string
		texts  []string
		inputs []int
		order  []int
		want   bool
	}{
		{"none of no keys", nil, nil, nil, true},
		{"none", given, []int{3, 0, 0}, nil, true},
		{"none, which is empty", given, []int{3, 0, 0}, []int{}, true},
		{"ahead", given, []int{3, 0, 0}, []int{2, 1}, true},
		{"behind", given, []int{3, 0, 0}, []int{1, 2}, false},
		{"missing", given, []int{3, 0, 0}, []int{1}, false},
		{"alone", given, []int{3, 0, 0}, []int{2}, true},
		{"a key twice", given, []int{3, 0, 0}, []int{2, 2}, false},
		{"a key twice, not side by side", given, []int{3, 0, 0}, []int{2, 1, 2}, false},
		{"the last key twice", given, []int{3, 0, 0}, []int{2, 1, 1}, false},
		{"a key that fetches nothing twice", []string{"7"}, []int{0}, []int{0, 0}, false},
		{"an input", given, []int{3, 0, 0}, []int{0}, false},
		{"an input first", given, []int{3, 0, 0}, []int{0, 2, 1}, false},
		{"an input last", given, []int{3, 0, 0}, []int{2, 1, 0}, false},
		{"a key behind the last", given, []int{3, 0, 0}, []int{2, 1, 3}, false},
		{"a key behind all", given, []int{3, 0, 0}, []int{2, 1, 10}, false},
		{"no key first", given, []int{3, 0, 0}, []int{-1, 2, 1}, false},
		{"no key alone", given, []int{3, 0, 0}, []int{-1}, false},
		{"a key of no keys", nil, nil, []int{0}, false},
		{"inputs that are none", given, []int{97, 0, 0}, []int{2, 1}, false},
		{"too many inputs", given, []int{3, 0, 0, 0}, []int{2, 1}, false},
		{"too few inputs", given, []int{3, 0}, []int{2, 1}, false},
		{"what is not fetched need not stand", choice, []int{0, 0, 0, 1}, []int{1, 0}, true},
		{"what is fetched instead", choice, []int{0, 0, 0, 1}, []int{2, 0}, false},
		{"the other one", choice, []int{0, 0, 0, 0}, []int{2, 0}, true},
		{"the other one is missing", choice, []int{0, 0, 0, 0}, []int{1, 0}, false},
		{"what is not fetched behind it", choice, []int{0, 0, 0, 0}, []int{2, 0, 1}, true},
		{"not safe, but built", either, []int{0, 0, 1}, []int{0, 1}, true},
		{"not safe, but built, the other way", either, []int{0, 0, 0}, []int{1, 0}, true},
		{"not safe, but built, the wrong way", either, []int{0, 0, 0}, []int{0, 1}, false},
		{"a key that fails beside", []string{"5", "k1"}, []int{0, 0}, []int{0}, false},
		{"none, of a sheet with a key that fails", []string{"5", "k1"}, []int{0, 0}, nil, false},
		{"keys that are not there", []string{"(+ k1 k9)"}, []int{0}, []int{0}, true},
		{"fetched twice by one task", []string{"(+ k1 k1)", "3"}, []int{0, 0}, []int{1, 0}, true},
		{"the first of two is missing", []string{"(+ k1 k2)", "3", "4"}, []int{0, 0, 0}, []int{2, 0, 1}, false},
		{"the second of two is missing", []string{"(+ k1 k2)", "3", "4"}, []int{0, 0, 0}, []int{1, 0, 2}, false},
		{"values of made keys decide", []string{"(? k1 k2 k3)", "(+ k2 91)", "6", "7"}, []int{0, 9, 0, 0}, []int{3, 2, 1, 0}, true},
		{"values of made keys decide, and not what inputs have for them", []string{"(? k1 k2 k3)", "(+ k4 91)", "5", "7", "-"}, []int{0, 9, 0, 0, 6}, []int{1, 3, 0}, true},
		{"what inputs have for made keys does not decide", []string{"(? k1 k2 k3)", "(+ k4 91)", "5", "7", "-"}, []int{0, 9, 0, 0, 6}, []int{1, 2, 0}, false},
		{"a long order", given, []int{3, 0, 0}, make([]int, 100000), false},
		{"a long order of one key", []string{"7"}, []int{0}, make([]int, 100000), false},
	} {
		if got := impl.OrderFits(sheet(c.texts...), c.inputs, c.order); got != c.want {
			t.Errorf("%s: OrderFits is %v", c.name, got)
		}
	}
}

// ordersNothing reports what is told of orders that are not to be.
func ordersNothing(t *testing.T, name string, s impl.Sheet, inputs []int, keys []int) {
	t.Helper()
	suspend, okSuspend := impl.OrderSuspend(s, inputs, keys)
	checkOrder(t, name+": OrderSuspend", suspend, okSuspend, noOrder())
	restart, okRestart := impl.OrderRestart(s, inputs, keys)
	checkOrder(t, name+": OrderRestart", restart, okRestart, noOrder())
	if impl.OrderFits(s, inputs, keys) {
		t.Errorf("%s: OrderFits is true", name)
	}
}

func TestOrdersOfBadSheets(t *testing.T) {
	for i, s := range badSheets() {
		name := "bad sheet " + strconv.Itoa(i)
		for _, keys := range [][]int{nil, {0}, {1, 0}, {-1}, {10}} {
			topo, ok := impl.OrderTopo(s, keys)
			checkOrder(t, name+": OrderTopo", topo, ok, noOrder())
			for _, inputs := range [][]int{nil, make([]int, len(s.Made)), make([]int, len(s.Tasks)), {97}} {
				ordersNothing(t, name, s, inputs, keys)
			}
		}
	}
}

// Inputs that are none are refused also if no key is asked for, or no input.
func TestOrdersOfBadInputs(t *testing.T) {
	for _, texts := range [][]string{nil, {"-"}, {"7"}, {"-", "7"}, {"7", "k0"}, {"-", "k0", "k1"}, slices.Repeat([]string{"-"}, 10), slices.Repeat([]string{"5"}, 10)} {
		s, keys := sheet(texts...), len(texts)
		list := append(badValues(), make([]int, keys+1), make([]int, keys+2), make([]int, 11), make([]int, 10000))
		if keys > 0 {
			list = append(list, nil, []int{}, make([]int, keys-1))
		}
		for key := range keys {
			for _, v := range []int{97, 98, -1, -97, math.MaxInt, math.MinInt} {
				inputs := make([]int, keys)
				inputs[key] = v
				list = append(list, inputs)
			}
		}
		for _, inputs := range list {
			name := strings.Join(texts, " ") + " and bad inputs"
			ordersNothing(t, name, s, inputs, nil)
			for key := range keys {
				ordersNothing(t, name, s, inputs, []int{key})
			}
		}
	}
}

// A key that is none of the sheet is refused alone, ahead of others and behind them.
func TestOrdersOfBadKeys(t *testing.T) {
	for _, texts := range [][]string{nil, {"-"}, {"7"}, {"k0"}, {"k1", "k0"}, {"-", "k0", "k3"}, {"1", "k0", "k1"}, slices.Repeat([]string{"-"}, 10), slices.Repeat([]string{"3"}, 10)} {
		s, keys := sheet(texts...), len(texts)
		inputs := make([]int, keys)
		all := make([]int, keys)
		for key := range keys {
			all[key] = key
		}
		for _, bad := range []int{-1, -2, keys, keys + 1, 10, 11, math.MaxInt, math.MinInt} {
			if bad >= 0 && bad < keys {
				continue
			}
			for _, asked := range [][]int{{bad}, {bad, bad}, append([]int{bad}, all...), append(slices.Clone(all), bad), slices.Insert(slices.Clone(all), keys/2, bad)} {
				name := strings.Join(texts, " ") + " and " + strconv.Itoa(bad)
				topo, ok := impl.OrderTopo(s, asked)
				checkOrder(t, name+": OrderTopo", topo, ok, noOrder())
				ordersNothing(t, name, s, inputs, asked)
			}
		}
	}
}

// plainReach returns the made keys that may be fetched on some way from keys, these among them.
func plainReach(s impl.Sheet, keys []int) []int {
	var reach []int
	for todo := slices.Clone(keys); len(todo) > 0; todo = todo[1:] {
		if key := todo[0]; key < len(s.Made) && s.Made[key] && !slices.Contains(reach, key) {
			reach, todo = append(reach, key), append(todo, plainMay(s.Tasks[key])...)
		}
	}
	slices.Sort(reach)
	return reach
}

// plainTopo returns the topological order for keys: again and again the least one that is left, and of which all that it may fetch, and which is left, is none.
func plainTopo(s impl.Sheet, keys []int) []int {
	var order []int
	left := plainReach(s, keys)
	for len(left) > 0 {
		i := slices.IndexFunc(left, func(key int) bool {
			return !slices.ContainsFunc(plainMay(s.Tasks[key]), func(from int) bool { return slices.Contains(left, from) })
		})
		order = append(order, left[i])
		left = slices.Delete(left, i, i+1)
	}
	return order
}

// plainWalk returns the value of a task that fetches by a function, and true; false as soon as that returns false.
func plainWalk(t impl.Task, fetch func(key int) (int, bool)) (int, bool) {
	switch t.Kind {
	case impl.TaskNum:
		return t.N, true
	case impl.TaskGet:
		return fetch(t.N)
	}
	first, ok := plainWalk(t.Parts[0], fetch)
	switch {
	case !ok:
		return 0, false
	case t.Kind == impl.TaskAt:
		return fetch((t.N + first) % 10)
	case t.Kind == impl.TaskIf && first != 0:
		return plainWalk(t.Parts[1], fetch)
	case t.Kind == impl.TaskIf:
		return plainWalk(t.Parts[2], fetch)
	}
	second, ok := plainWalk(t.Parts[1], fetch)
	switch {
	case !ok:
		return 0, false
	case t.Kind == impl.TaskAdd:
		return (first + second) % 97, true
	}
	return first * second % 97, true
}

// plainSuspend builds keys one behind the other, and each that is fetched as soon as it is; it returns the order, and whether none fails.
func plainSuspend(s impl.Sheet, inputs []int, keys []int) ([]int, bool) {
	var order []int
	values, stack := map[int]int{}, map[int]bool{}
	var build func(key int) (int, bool)
	build = func(key int) (int, bool) {
		value, built := values[key]
		switch {
		case key >= len(s.Made):
			return 0, true
		case !s.Made[key]:
			return inputs[key], true
		case built || stack[key]:
			return value, built
		}
		stack[key] = true
		value, ok := plainWalk(s.Tasks[key], build)
		if ok {
			values[key], order = value, append(order, key)
		}
		return value, ok
	}
	for _, key := range keys {
		if _, ok := build(key); !ok {
			return nil, false
		}
	}
	return order, true
}

// plainRestart keeps the queue as the chapter tells; the sheet is safe.
func plainRestart(s impl.Sheet, inputs []int, keys []int) []int {
	var order []int
	values := map[int]int{}
	for queue := slices.Clone(keys); len(queue) > 0; {
		key := queue[0]
		queue = queue[1:]
		if _, built := values[key]; built || !s.Made[key] {
			continue
		}
		order = append(order, key)
		missing := noNumber
		value, ok := plainWalk(s.Tasks[key], func(from int) (int, bool) {
			value, built := values[from]
			switch {
			case from >= len(s.Made):
				return 0, true
			case !s.Made[from]:
				return inputs[from], true
			case !built:
				missing = from
			}
			return value, built
		})
		if ok {
			values[key] = value
		} else {
			queue = append([]int{missing, key}, queue...)
		}
	}
	return order
}

// plainMadeUses returns the made keys that a task fetches with values, each once.
func plainMadeUses(s impl.Sheet, key int, values []int) []int {
	_, list := plainFetches(s.Tasks[key], values)
	return slices.DeleteFunc(firstKeys(list), func(from int) bool { return from >= len(s.Made) || !s.Made[from] })
}

// plainFits reports whether an order fits, keys of which are of the sheet.
func plainFits(s impl.Sheet, inputs []int, order []int) bool {
	values, _, ok := plainAll(s, inputs)
	for i, key := range order {
		if !ok || !s.Made[key] || slices.Contains(order[:i], key) {
			return false
		}
		for _, from := range plainMadeUses(s, key, values) {
			if !slices.Contains(order[:i], from) {
				return false
			}
		}
	}
	return ok
}

// eachOrder calls f with many sheets, inputs and keys; keys are asked for more than once, and in all orders.
func eachOrder(f func(s impl.Sheet, inputs []int, keys []int)) {
	for _, c := range orderCases() {
		f(sheet(c.texts...), c.inputs, c.keys)
	}
	r := rand.New(rand.NewSource(5))
	eachSheet(func(s impl.Sheet, inputs []int) {
		keys := r.Perm(len(s.Made))
		f(s, inputs, keys)
		keys = keys[:r.Intn(len(keys)+1)]
		for range len(keys) / 2 {
			keys = append(keys, keys[r.Intn(len(keys))])
		}
		f(s, inputs, keys)
	})
}

// Promise 18: OrderFits holds of OrderTopo with inputs of noughts, and of 2 for each key.
func TestPromise18(t *testing.T) {
	long, sorted := 0, 0
	eachOrder(func(s impl.Sheet, inputs []int, keys []int) {
		order, ok := impl.OrderTopo(s, keys)
		if safe := plainSafe(s); ok != safe || !ok && len(order) != 0 {
			t.Errorf("OrderTopo of %v in %q is %v, %v", keys, impl.SheetText(s), order, ok)
		}
		if !ok {
			return
		}
		if want := plainTopo(s, keys); !slices.Equal(order, want) {
			t.Errorf("OrderTopo of %v in %q is %v, not %v", keys, impl.SheetText(s), order, want)
		}
		if len(order) > 4 {
			long++
		}
		if slices.IsSorted(order) {
			sorted++
		}
		for _, in := range [][]int{make([]int, len(s.Made)), slices.Repeat([]int{2}, len(s.Made)), inputs} {
			if !impl.OrderFits(s, in, order) {
				t.Errorf("OrderFits with %v of OrderTopo of %v in %q is false: %v", in, keys, impl.SheetText(s), order)
			}
		}
	})
	if long < 1000 || sorted < 100 {
		t.Errorf("%d orders were of more than four keys, %d were ascending", long, sorted)
	}
}

// Promise 19: OrderFits holds of OrderSuspend, if BuildAll is told; and of a safe sheet all its keys are in OrderTopo.
func TestPromise19(t *testing.T) {
	long, less, failing := 0, 0, 0
	eachOrder(func(s impl.Sheet, inputs []int, keys []int) {
		order, ok := impl.OrderSuspend(s, inputs, keys)
		want, okWant := plainSuspend(s, inputs, keys)
		if ok != okWant || !slices.Equal(order, want) {
			t.Errorf("OrderSuspend of %v in %q with %v is %v, %v, not %v, %v", keys, impl.SheetText(s), inputs, order, ok, want, okWant)
		}
		_, all := impl.BuildAll(s, inputs)
		if all && (!ok || !impl.OrderFits(s, inputs, order)) {
			t.Errorf("OrderFits of OrderSuspend of %v in %q with %v is false: %v", keys, impl.SheetText(s), inputs, order)
		}
		topo, safe := impl.OrderTopo(s, keys)
		for _, key := range order {
			if safe && !slices.Contains(topo, key) {
				t.Errorf("OrderTopo of %v in %q is %v, without %d", keys, impl.SheetText(s), topo, key)
			}
		}
		if len(order) > 4 {
			long++
		}
		if safe && len(order) < len(topo) {
			less++
		}
		if !ok {
			failing++
		}
	})
	if long < 1000 || less < 100 || failing < 1000 {
		t.Errorf("%d orders were of more than four keys, %d had less than OrderTopo, %d failed", long, less, failing)
	}
}

// Promise 20: OrderRestart has just the keys of OrderSuspend, each from once to as often as it fetches made keys and once more.
func TestPromise20(t *testing.T) {
	more, most := 0, 0
	eachOrder(func(s impl.Sheet, inputs []int, keys []int) {
		order, ok := impl.OrderRestart(s, inputs, keys)
		safe := plainSafe(s)
		if ok != safe || !ok && len(order) != 0 {
			t.Errorf("OrderRestart of %v in %q with %v is %v, %v", keys, impl.SheetText(s), inputs, order, ok)
		}
		if !safe {
			return
		}
		if want := plainRestart(s, inputs, keys); !slices.Equal(order, want) {
			t.Errorf("OrderRestart of %v in %q with %v is %v, not %v", keys, impl.SheetText(s), inputs, order, want)
		}
		values, _, _ := plainAll(s, inputs)
		suspended, _ := impl.OrderSuspend(s, inputs, keys)
		times := make([]int, len(s.Made))
		for _, key := range order {
			times[key]++
		}
		for key, n := range times {
			if !slices.Contains(suspended, key) {
				if n != 0 {
					t.Errorf("OrderRestart of %v in %q with %v has %d, OrderSuspend has not", keys, impl.SheetText(s), inputs, key)
				}
				continue
			}
			top := len(plainMadeUses(s, key, values)) + 1
			if n < 1 || n > top {
				t.Errorf("OrderRestart of %v in %q with %v has %d %d times, not from once to %d", keys, impl.SheetText(s), inputs, key, n, top)
			}
			if n > 1 && n < top {
				more++
			}
			if n > 2 && n == top {
				most++
			}
		}
	})
	if more < 100 || most < 100 {
		t.Errorf("%d keys were tried again, but less often than can be, %d as often as can be", more, most)
	}
}

// Promise 21: if OrderFits holds, it holds without the last key.
func TestPromise21(t *testing.T) {
	r := rand.New(rand.NewSource(6))
	fits, not := 0, 0
	check := func(s impl.Sheet, inputs []int, order []int) {
		got := impl.OrderFits(s, inputs, order)
		if want := plainFits(s, inputs, order); got != want {
			t.Errorf("OrderFits of %v in %q with %v is %v", order, impl.SheetText(s), inputs, got)
		}
		if !got {
			not++
			return
		}
		if len(order) > 2 {
			fits++
		}
		for keys := len(order) - 1; keys >= 0; keys-- {
			if !impl.OrderFits(s, inputs, order[:keys]) {
				t.Errorf("OrderFits of %v in %q with %v is false, but true of %v", order[:keys], impl.SheetText(s), inputs, order)
			}
		}
	}
	eachOrder(func(s impl.Sheet, inputs []int, keys []int) {
		if len(keys) > 100 {
			keys = keys[:100]
		}
		check(s, inputs, keys)
		order, _ := plainSuspend(s, inputs, keys)
		check(s, inputs, order)
		if len(order) > 1 {
			i := r.Intn(len(order) - 1)
			order[i], order[i+1] = order[i+1], order[i]
			check(s, inputs, order)
			check(s, inputs, append(order, order[0]))
		}
	})
	if fits < 1000 || not < 1000 {
		t.Errorf("%d orders of more than two keys did fit, %d did not", fits, not)
	}
}

// Arguments are not changed, not even behind the ends of the lists.
func TestOrdersChangeNothing(t *testing.T) {
	eachOrder(func(s impl.Sheet, inputs []int, keys []int) {
		before := copySheet(s)
		in, asked := append(slices.Clone(inputs), 11, 12, 13), append(slices.Clone(keys), 14, 15, 16)
		keptIn, keptAsked := slices.Clone(in), slices.Clone(asked)
		impl.OrderTopo(s, asked[:len(keys)])
		impl.OrderSuspend(s, in[:len(inputs)], asked[:len(keys)])
		impl.OrderRestart(s, in[:len(inputs)], asked[:len(keys)])
		impl.OrderFits(s, in[:len(inputs)], asked[:len(keys)])
		if !slices.Equal(in, keptIn) || !slices.Equal(asked, keptAsked) || !sameSheet(s, before) {
			t.Errorf("%q, %v or %v was changed", impl.SheetText(before), inputs, keys)
		}
	})
}

// Results share no memory, not even behind their ends: writing over one leaves the arguments and the next result as they were.
func TestOrdersShareNothing(t *testing.T) {
	eachOrder(func(s impl.Sheet, inputs []int, keys []int) {
		before, keptIn, keptKeys := copySheet(s), slices.Clone(inputs), slices.Clone(keys)
		for _, tell := range []func() ([]int, bool){
			func() ([]int, bool) { return impl.OrderTopo(s, keys) },
			func() ([]int, bool) { return impl.OrderSuspend(s, inputs, keys) },
			func() ([]int, bool) { return impl.OrderRestart(s, inputs, keys) },
		} {
			first, _ := tell()
			next, _ := tell()
			want := slices.Clone(next)
			overwrite(first)
			if !slices.Equal(next, want) || !slices.Equal(inputs, keptIn) || !slices.Equal(keys, keptKeys) || !sameSheet(s, before) {
				t.Errorf("orders of %v in %q with %v share memory", keptKeys, impl.SheetText(before), keptIn)
			}
		}
	})
}
