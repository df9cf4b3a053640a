package tests

import (
	"math"
	"math/rand"
	"slices"
	"strconv"
	"testing"

	"loop.example/buildroads/impl"
)

// trace returns a trace of a key; what it used are pairs of a key and a value.
func trace(key int, used pairs, value int) impl.Trace {
	return impl.Trace{Key: key, Used: used.list(), Value: value}
}

// sameTrace compares two traces; lists that are nil and empty ones are the same.
func sameTrace(a, b impl.Trace) bool {
	return a.Key == b.Key && slices.Equal(a.Used, b.Used) && a.Value == b.Value
}

// sameTraces compares two lists of traces, in order.
func sameTraces(a, b []impl.Trace) bool {
	return slices.EqualFunc(a, b, sameTrace)
}

// copyTraces returns traces that share no memory with a list.
func copyTraces(list []impl.Trace) []impl.Trace {
	var copies []impl.Trace
	for _, x := range list {
		copies = append(copies, impl.Trace{Key: x.Key, Used: slices.Clone(x.Used), Value: x.Value})
	}
	return copies
}

// isNoTrace reports whether all of a trace is zero.
func isNoTrace(x impl.Trace) bool {
	return x.Key == 0 && len(x.Used) == 0 && x.Value == 0
}

// numbered returns so many traces, no two the same.
func numbered(count int) []impl.Trace {
	list := make([]impl.Trace, count)
	for i := range list {
		list[i] = trace(i%10, pairs{{i % 7, i % 97}}, i%97)
	}
	return list
}

func TestConstantOfTraces(t *testing.T) {
	if impl.TracesMost != 60 {
		t.Errorf("TracesMost is %d", impl.TracesMost)
	}
}

// allTen are used with these values in the order 0, 1 .. 9.
func allTen() pairs {
	return pairs{{0, 96}, {1, 1}, {2, 2}, {3, 3}, {4, 4}, {5, 5}, {6, 6}, {7, 7}, {8, 8}, {9, 95}}
}

// traceCase is a key and its task with values, and the trace that is told of them.
type traceCase struct {
	key    int
	text   string
	values []int
	used   pairs
	value  int
}

func traceCases() []traceCase {
	ten := []int{96, 1, 2, 3, 4, 5, 6, 7, 8, 95}
	return []traceCase{
		{3, "(+ k1 k1)", []int{0, 9}, pairs{{1, 9}}, 18},
		{0, "k9", ten, pairs{{9, 95}}, 95},
		{9, "k0", ten, pairs{{0, 96}}, 96},
		{0, "(* k1 k2)", ten, pairs{{1, 1}, {2, 2}}, 2},
		{0, "(* k2 k1)", ten, pairs{{2, 2}, {1, 1}}, 2},
		// nothing is used
		{0, "0", nil, nil, 0},
		{0, "7", nil, nil, 7},
		{9, "96", ten, nil, 96},
		{4, "(+ 96 96)", ten, nil, 95},
		{5, "(? 0 k3 2)", ten, nil, 2},
		{5, "(? 1 2 (@1 k3))", ten, nil, 2},
		// keys that are fetched again
		{0, "(* k3 (+ k2 k3))", ten, pairs{{3, 3}, {2, 2}}, 15},
		{0, "(+ k2 (+ k1 (+ k1 (+ k2 k3))))", ten, pairs{{2, 2}, {1, 1}, {3, 3}}, 9},
		{0, "(? k2 k2 k1)", ten, pairs{{2, 2}}, 2},
		{8, "(@1 k1)", []int{4, 0}, pairs{{1, 0}}, 0},
		{8, "(@4 k0)", ten, pairs{{0, 96}}, 96},
		{2, "(+ k5 (+ k5 k5))", nil, pairs{{5, 0}}, 0},
		// its own key
		{3, "(+ k3 1)", []int{0, 0, 0, 5}, pairs{{3, 5}}, 6},
		{1, "(+ k0 (+ k1 k2))", ten, pairs{{0, 96}, {1, 1}, {2, 2}}, 2},
		{7, "(@0 (+ 3 4))", ten, pairs{{7, 7}}, 7},
		// keys that are not there
		{2, "k5", []int{1}, pairs{{5, 0}}, 0},
		{2, "k0", nil, pairs{{0, 0}}, 0},
		{2, "(+ k2 k1)", []int{7, 8}, pairs{{2, 0}, {1, 8}}, 8},
		// what is not looked at is not used
		{0, "(? k0 k1 k2)", ten, pairs{{0, 96}, {1, 1}}, 1},
		{0, "(? k0 k1 k2)", nil, pairs{{0, 0}, {2, 0}}, 0},
		{1, "(? k1 (+ k2 3) (@4 k0))", []int{3, 0, 5}, pairs{{1, 0}, {0, 3}, {7, 0}}, 0},
		// all keys
		{6, "(+ k0 (+ k1 (+ k2 (+ k3 (+ k4 (+ k5 (+ k6 k7)))))))", ten, allTen()[:8], 27},
	}
}

func TestTraceCases(t *testing.T) {
	for _, c := range traceCases() {
		want := trace(c.key, c.used, c.value)
		got, ok := impl.TraceOf(c.key, read(c.text), c.values)
		if !ok || !sameTrace(got, want) {
			t.Errorf("TraceOf %d, %s with %v is %v, %v, not %v", c.key, c.text, c.values, got, ok, want)
		}
		if !impl.TraceHolds(want, c.values) {
			t.Errorf("TraceHolds of %v with %v is false", want, c.values)
		}
		if !impl.TracesOk([]impl.Trace{want}) {
			t.Errorf("TracesOk of %v is false", want)
		}
	}
}

// A task may fetch all ten keys, each of which then stands in its trace.
func TestTraceOfAllKeys(t *testing.T) {
	up := []int{1, 2, 3, 4, 5, 6, 7, 8, 9, 96}
	got, ok := impl.TraceOf(5, nest(14, get(0)), up)
	want := trace(5, pairs{{0, 1}, {1, 2}, {2, 3}, {3, 4}, {4, 5}, {5, 6}, {6, 7}, {7, 8}, {8, 9}, {9, 96}}, 7)
	if !ok || !sameTrace(got, want) || !impl.TraceHolds(want, up) || !impl.TracesOk([]impl.Trace{want}) {
		t.Errorf("TraceOf of ten keys is %v, %v", got, ok)
	}
}

// Keys from 0 to 9 are ones, whatever the task is; all other numbers are none.
func TestTraceKeys(t *testing.T) {
	for _, text := range []string{"7", "k0", "(+ k3 k9)"} {
		check := func(key int) {
			got, ok := impl.TraceOf(key, read(text), []int{5})
			if want := key >= 0 && key <= 9; ok != want || ok && got.Key != key || !ok && !isNoTrace(got) {
				t.Errorf("TraceOf %d, %s is %v, %v", key, text, got, ok)
			}
		}
		for key := -200; key <= 200; key++ {
			check(key)
		}
		check(math.MaxInt)
		check(math.MinInt)
	}
}

func TestTracesOfBadTasks(t *testing.T) {
	for i, task := range badTasks() {
		for _, values := range [][]int{nil, {0}, slices.Repeat([]int{96}, 10), make([]int, 11)} {
			for _, key := range []int{-1, 0, 9, 10} {
				if got, ok := impl.TraceOf(key, task, values); ok || !isNoTrace(got) {
					t.Errorf("TraceOf %d, bad task %d is %v, %v", key, i, got, ok)
				}
			}
		}
	}
}

// Values that are none are refused also by traces that do not use them, and by those that used nothing.
func TestTracesOfBadValues(t *testing.T) {
	for _, values := range append(badValues(), []int{0, 0, 0, 0, 0, 0, 0, 0, 0, 0, 0}) {
		for _, text := range []string{"7", "k0", "k9", "(? 0 k0 1)"} {
			if got, ok := impl.TraceOf(3, read(text), values); ok || !isNoTrace(got) {
				t.Errorf("TraceOf %s with %.12v is %v, %v", text, values, got, ok)
			}
		}
		for _, x := range []impl.Trace{trace(3, nil, 7), trace(3, pairs{{1, 0}}, 7), trace(3, pairs{{1, 0}, {9, 0}, {0, 0}}, 7)} {
			if impl.TraceHolds(x, values) {
				t.Errorf("TraceHolds of %v with %.12v is true", x, values)
			}
			if got, ok := impl.TracesFind([]impl.Trace{x}, 3, values); ok || !isNoTrace(got) {
				t.Errorf("TracesFind of %v with %.12v is %v, %v", x, values, got, ok)
			}
		}
	}
}

// Ten values are values, eleven are none; 96 is a value, 97 is none.
func TestMostValuesOfTraces(t *testing.T) {
	nothing := trace(3, nil, 7)
	for n := range 20 {
		values, want := make([]int, n), n <= 10
		_, told := impl.TraceOf(3, num(7), values)
		_, found := impl.TracesFind([]impl.Trace{nothing}, 3, values)
		if holds := impl.TraceHolds(nothing, values); told != want || found != want || holds != want {
			t.Errorf("with %d values TraceOf is told: %v, TraceHolds is %v, TracesFind is told: %v", n, told, holds, found)
		}
	}
	for v := -200; v <= 200; v++ {
		values, want := []int{0, v}, v >= 0 && v <= 96
		_, told := impl.TraceOf(3, num(7), values)
		_, found := impl.TracesFind([]impl.Trace{nothing}, 3, values)
		if holds := impl.TraceHolds(nothing, values); told != want || found != want || holds != want {
			t.Errorf("with the value %d TraceOf is told: %v, TraceHolds is %v, TracesFind is told: %v", v, told, holds, found)
		}
	}
}

func TestTraceHoldsCases(t *testing.T) {
	ten := []int{96, 1, 2, 3, 4, 5, 6, 7, 8, 95}
	for _, c := range []struct {
		name   string
		trace  impl.Trace
		values []int
		want   bool
	}{
		{"the value that it had", trace(3, pairs{{1, 9}}, 18), []int{0, 9}, true},
		{"another value", trace(3, pairs{{1, 9}}, 18), []int{0, 8}, false},
		{"nothing used, no values", trace(0, nil, 0), nil, true},
		{"nothing used", trace(3, nil, 7), ten, true},
		{"nothing used, which is empty", impl.Trace{Key: 3, Used: []impl.Fetch{}, Value: 7}, ten, true},
		{"a missing key that had 0", trace(3, pairs{{1, 0}}, 18), []int{5}, true},
		{"a missing key that had another value", trace(3, pairs{{1, 1}}, 18), []int{5}, false},
		{"a missing key, without values", trace(3, pairs{{0, 0}, {9, 0}}, 18), nil, true},
		{"a missing last key", trace(3, pairs{{9, 95}}, 18), ten[:9], false},
		{"the first one of two has another value", trace(3, pairs{{1, 2}, {2, 2}}, 18), ten, false},
		{"the last one of two has another value", trace(3, pairs{{1, 1}, {2, 3}}, 18), ten, false},
		{"both of two", trace(3, pairs{{2, 2}, {1, 1}}, 18), ten, true},
		{"the middle one of three", trace(3, pairs{{2, 2}, {4, 5}, {1, 1}}, 18), ten, false},
		{"all ten", trace(3, allTen(), 18), ten, true},
		{"all ten, but the first one", trace(3, allTen(), 18), append([]int{95}, ten[1:]...), false},
		{"all ten, but the last one", trace(3, allTen(), 18), ten[:9], false},
		{"its own key does not have its value", trace(3, pairs{{1, 1}}, 18), ten, true},
		{"its own key has its value", trace(3, pairs{{1, 1}}, 3), ten, true},
		{"its own key is missing", trace(3, pairs{{1, 1}}, 18), ten[:2], true},
		{"its own key is used, with the value that it had", trace(3, pairs{{3, 3}}, 4), ten, true},
		{"its own key is used, with the value that the trace has", trace(3, pairs{{3, 2}}, 3), ten, false},
		{"its own key is used, with another value", trace(3, pairs{{1, 1}, {3, 4}}, 5), ten, false},
		{"its own key is used alone, and is missing", trace(3, pairs{{3, 0}}, 1), nil, true},
		{"the least key and the least values", trace(0, pairs{{0, 0}}, 0), []int{0}, true},
		{"the greatest key and the greatest values", trace(9, pairs{{9, 96}}, 96), []int{0, 0, 0, 0, 0, 0, 0, 0, 0, 96}, true},
	} {
		if got := impl.TraceHolds(c.trace, c.values); got != c.want {
			t.Errorf("%s: TraceHolds of %v with %v is %v", c.name, c.trace, c.values, got)
		}
	}
}

// badTraces are values of type Trace that are no traces.
func badTraces() []impl.Trace {
	var list []impl.Trace
	for _, key := range []int{-1, -2, -10, 10, 11, 96, math.MaxInt, math.MinInt} {
		list = append(list, trace(key, nil, 7), trace(key, pairs{{1, 0}}, 7),
			trace(3, pairs{{key, 0}}, 7), trace(3, pairs{{key, 0}, {1, 0}}, 7), trace(3, pairs{{1, 0}, {key, 0}}, 7), trace(3, pairs{{1, 0}, {key, 0}, {2, 0}}, 7))
	}
	for _, value := range []int{-1, -2, -97, 97, 98, 194, math.MaxInt, math.MinInt} {
		list = append(list, trace(3, nil, value), trace(3, pairs{{1, 0}}, value),
			trace(3, pairs{{1, value}}, 7), trace(3, pairs{{2, value}, {1, 0}}, 7), trace(3, pairs{{1, 0}, {2, value}}, 7), trace(3, pairs{{3, value}}, 7))
	}
	return append(list,
		trace(3, pairs{{1, 0}, {1, 0}}, 7), trace(3, pairs{{1, 0}, {1, 1}}, 7), trace(3, pairs{{1, 0}, {2, 0}, {1, 0}}, 7), trace(3, pairs{{2, 0}, {1, 0}, {1, 0}}, 7),
		trace(3, pairs{{0, 0}, {0, 0}}, 7), trace(3, pairs{{9, 0}, {9, 0}}, 7), trace(3, pairs{{3, 0}, {3, 0}}, 7), trace(3, pairs{{3, 5}, {1, 0}, {3, 6}}, 7),
		trace(3, append(allTen(), [2]int{0, 96}), 7), trace(3, append(allTen(), [2]int{9, 95}), 7), trace(3, append(allTen(), allTen()...), 7),
		impl.Trace{Key: 3, Used: make([]impl.Fetch, 100000), Value: 7}, trace(-1, pairs{{-1, -1}}, -1), trace(10, pairs{{10, 97}}, 97))
}

// lists returns lists of traces in which x stands alone, first, last and amid others, and x and its others hold for noughts.
func lists(x impl.Trace) [][]impl.Trace {
	a, b := trace(3, nil, 5), trace(4, pairs{{1, 0}}, 6)
	return [][]impl.Trace{{x}, {x, x}, {x, a}, {a, x}, {a, x, b}, {b, a, x}, {x, a, b}, append(slices.Repeat([]impl.Trace{a}, 59), x), append([]impl.Trace{x}, slices.Repeat([]impl.Trace{a}, 59)...)}
}

// refusesTraces reports what is told of traces that are none.
func refusesTraces(t *testing.T, name string, list []impl.Trace) {
	t.Helper()
	if impl.TracesOk(list) {
		t.Errorf("%s: TracesOk is true", name)
	}
	for _, s := range []impl.Sheet{{}, sheet("-", "-", "-", "7", "(+ k1 6)"), sheet(slices.Repeat([]string{"7"}, 10)...), sheet("-", "-", "-", "5")} {
		if impl.TracesHonest(s, list) {
			t.Errorf("%s: TracesHonest of %q is true", name, impl.SheetText(s))
		}
	}
	for _, key := range []int{-1, 0, 3, 4, 9, 10} {
		for _, values := range [][]int{nil, make([]int, 10), {96, 1, 2, 3, 4, 5, 6, 7, 8, 95}} {
			if got, ok := impl.TracesFind(list, key, values); ok || !isNoTrace(got) {
				t.Errorf("%s: TracesFind of %d is %v, %v", name, key, got, ok)
			}
		}
	}
	for _, x := range []impl.Trace{trace(0, nil, 0), trace(3, nil, 5), trace(4, pairs{{1, 0}}, 6)} {
		if got, ok := impl.TracesPut(list, x); ok || len(got) != 0 {
			t.Errorf("%s: TracesPut of %v is %v, %v", name, x, got, ok)
		}
	}
}

func TestBadTraces(t *testing.T) {
	for i, x := range badTraces() {
		name := "bad trace " + strconv.Itoa(i)
		for _, values := range [][]int{nil, {}, make([]int, 10), {96, 1, 2, 3, 4, 5, 6, 7, 8, 95}, make([]int, 11)} {
			if impl.TraceHolds(x, values) {
				t.Errorf("%s: TraceHolds with %v is true", name, values)
			}
		}
		for j, list := range lists(x) {
			refusesTraces(t, name+" in list "+strconv.Itoa(j), list)
		}
		for _, list := range [][]impl.Trace{nil, {trace(3, nil, 5)}, {x}, numbered(60), numbered(61)} {
			if got, ok := impl.TracesPut(list, x); ok || len(got) != 0 {
				t.Errorf("%s: TracesPut of it is %v, %v", name, got, ok)
			}
		}
	}
}

// Keys from 0 to 9 and values from 0 to 96 are ones, of a trace and of what it used.
func TestLimitsOfTraces(t *testing.T) {
	for n := -200; n <= 200; n++ {
		key, value := n >= 0 && n <= 9, n >= 0 && n <= 96
		for _, c := range []struct {
			trace impl.Trace
			want  bool
		}{{trace(n, nil, 5), key}, {trace(n, pairs{{1, 0}}, 5), key}, {trace(3, pairs{{n, 0}}, 5), key}, {trace(3, nil, n), value}, {trace(3, pairs{{1, n}}, 5), value}} {
			list := []impl.Trace{c.trace}
			if got := impl.TracesOk(list); got != c.want {
				t.Errorf("TracesOk of %v is %v", list, got)
			}
			if _, ok := impl.TracesPut(nil, c.trace); ok != c.want {
				t.Errorf("TracesPut of %v is told: %v", c.trace, ok)
			}
			if _, ok := impl.TracesPut(list, trace(5, nil, 5)); ok != c.want {
				t.Errorf("TracesPut to %v is told: %v", list, ok)
			}
			values := make([]int, 10)
			for _, f := range c.trace.Used {
				values[max(0, min(f.Key, 9))] = max(0, min(f.Value, 96))
			}
			if got := impl.TraceHolds(c.trace, values); got != c.want {
				t.Errorf("TraceHolds of %v with %v is %v", c.trace, values, got)
			}
			if _, ok := impl.TracesFind(list, c.trace.Key, values); ok != c.want {
				t.Errorf("TracesFind of %v with %v is told: %v", list, values, ok)
			}
		}
	}
}

// Sixty traces are ones, sixty-one are none, also if all are the same.
func TestMostTraces(t *testing.T) {
	s := sheet("7", "k2", "-")
	for _, c := range []struct {
		count int
		want  bool
	}{{0, true}, {1, true}, {59, true}, {60, true}, {61, false}, {62, false}, {120, false}, {100000, false}} {
		for _, x := range []impl.Trace{trace(0, nil, 7), trace(1, pairs{{2, 0}}, 0)} {
			list, name := slices.Repeat([]impl.Trace{x}, c.count), strconv.Itoa(c.count)+" traces"
			if got := impl.TracesOk(list); got != c.want {
				t.Errorf("%s: TracesOk is %v", name, got)
			}
			if got := impl.TracesHonest(s, list); got != c.want {
				t.Errorf("%s: TracesHonest is %v", name, got)
			}
			if got, ok := impl.TracesFind(list, x.Key, nil); ok != (c.want && c.count > 0) || ok && !sameTrace(got, x) || !ok && !isNoTrace(got) {
				t.Errorf("%s: TracesFind is %v, %v", name, got, ok)
			}
			if got, ok := impl.TracesPut(list, x); ok != c.want || ok && !sameTraces(got, slices.Repeat([]impl.Trace{x}, max(1, c.count))) || !ok && len(got) != 0 {
				t.Errorf("%s: TracesPut is %v, %v", name, got, ok)
			}
		}
	}
	refusesTraces(t, "numbered ones", numbered(61))
}

func TestTracesHonestCases(t *testing.T) {
	given := []string{"-", "(+ k0 k0)", "(? k0 k1 k2)", "7", "(* k1 k9)"}
	for _, c := range []struct {
		name  string
		texts []string
		list  []impl.Trace
		want  bool
	}{
		{"no traces of no keys", nil, nil, true},
		{"no traces", given, nil, true},
		{"no traces, which are empty", given, []impl.Trace{}, true},
		{"fetched twice, used once", given, []impl.Trace{trace(1, pairs{{0, 9}}, 18)}, true},
		{"another value than the task has", given, []impl.Trace{trace(1, pairs{{0, 9}}, 17)}, false},
		{"the value with another one of what it used", given, []impl.Trace{trace(1, pairs{{0, 8}}, 18)}, false},
		{"used less", given, []impl.Trace{trace(1, nil, 0)}, false},
		{"used more", given, []impl.Trace{trace(1, pairs{{0, 9}, {1, 0}}, 18)}, false},
		{"used more, ahead", given, []impl.Trace{trace(1, pairs{{2, 0}, {0, 9}}, 18)}, false},
		{"used another key", given, []impl.Trace{trace(1, pairs{{2, 0}}, 0)}, false},
		{"used nothing", given, []impl.Trace{trace(3, nil, 7)}, true},
		{"used nothing, which is empty", given, []impl.Trace{{Key: 3, Used: []impl.Fetch{}, Value: 7}}, true},
		{"used nothing, another value", given, []impl.Trace{trace(3, nil, 8)}, false},
		{"used what is not fetched", given, []impl.Trace{trace(3, pairs{{0, 0}}, 7)}, false},
		{"an input", given, []impl.Trace{trace(0, nil, 0)}, false},
		{"an input with a value", given, []impl.Trace{trace(0, nil, 9)}, false},
		{"an input that used itself", given, []impl.Trace{trace(0, pairs{{0, 9}}, 9)}, false},
		{"the last key, an input", []string{"7", "-"}, []impl.Trace{trace(1, nil, 0)}, false},
		{"a key behind the last", given, []impl.Trace{trace(5, nil, 0)}, false},
		{"the last key of all, which is not there", given, []impl.Trace{trace(9, nil, 0)}, false},
		{"a key of no keys", nil, []impl.Trace{trace(0, nil, 0)}, false},
		{"a choice, the first", given, []impl.Trace{trace(2, pairs{{0, 1}, {1, 5}}, 5)}, true},
		{"a choice, the second", given, []impl.Trace{trace(2, pairs{{0, 0}, {2, 6}}, 6)}, true},
		{"a choice, both", given, []impl.Trace{trace(2, pairs{{0, 1}, {1, 5}, {2, 6}}, 5)}, false},
		{"a choice, the one that is not looked at", given, []impl.Trace{trace(2, pairs{{0, 1}, {2, 6}}, 6)}, false},
		{"a choice, and no more", given, []impl.Trace{trace(2, pairs{{0, 1}}, 0)}, false},
		{"a choice in another order", given, []impl.Trace{trace(2, pairs{{1, 5}, {0, 1}}, 5)}, false},
		{"a product", given, []impl.Trace{trace(4, pairs{{1, 2}, {9, 0}}, 0)}, true},
		{"a product in another order", given, []impl.Trace{trace(4, pairs{{9, 0}, {1, 2}}, 0)}, false},
		{"a sum in another order", []string{"(+ k1 (+ k2 k1))", "-", "-"}, []impl.Trace{trace(0, pairs{{2, 3}, {1, 3}}, 9)}, false},
		{"the order in which they come first", []string{"(+ k1 (+ k2 k1))", "-", "-"}, []impl.Trace{trace(0, pairs{{1, 3}, {2, 3}}, 9)}, true},
		{"ascending, but fetched otherwise", []string{"(+ k2 k1)", "-", "-"}, []impl.Trace{trace(0, pairs{{1, 3}, {2, 3}}, 6)}, false},
		{"a key beyond the sheet as it was used", given, []impl.Trace{trace(4, pairs{{1, 2}, {9, 5}}, 10)}, true},
		{"a key beyond the sheet left out", given, []impl.Trace{trace(4, pairs{{1, 2}}, 0)}, false},
		{"values that no build has", given, []impl.Trace{trace(4, pairs{{1, 96}, {9, 96}}, 1)}, true},
		{"its own key", []string{"(+ k0 1)"}, []impl.Trace{trace(0, pairs{{0, 5}}, 6)}, true},
		{"its own key, another value", []string{"(+ k0 1)"}, []impl.Trace{trace(0, pairs{{0, 5}}, 5)}, false},
		{"a key that is reckoned", []string{"(@1 k2)", "5", "-"}, []impl.Trace{trace(0, pairs{{2, 0}, {1, 5}}, 5), trace(0, pairs{{2, 2}, {3, 8}}, 8), trace(0, pairs{{2, 1}}, 1)}, true},
		{"a key that is reckoned with 0, not with what is beside", []string{"(@1 k2)", "5", "-"}, []impl.Trace{trace(0, pairs{{2, 2}, {1, 5}}, 5)}, false},
		{"the zero trace of a made key", []string{"0"}, []impl.Trace{{}}, true},
		{"the zero trace of an input", []string{"-"}, []impl.Trace{{}}, false},
		{"the same one again", given, []impl.Trace{trace(3, nil, 7), trace(3, nil, 7)}, true},
		{"many", given, []impl.Trace{trace(3, nil, 7), trace(1, pairs{{0, 9}}, 18), trace(1, pairs{{0, 1}}, 2), trace(2, pairs{{0, 1}, {1, 5}}, 5)}, true},
		{"the first one is not", given, []impl.Trace{trace(3, nil, 8), trace(1, pairs{{0, 9}}, 18), trace(1, pairs{{0, 1}}, 2)}, false},
		{"the middle one is not", given, []impl.Trace{trace(3, nil, 7), trace(1, pairs{{0, 9}}, 19), trace(1, pairs{{0, 1}}, 2)}, false},
		{"the last one is not", given, []impl.Trace{trace(3, nil, 7), trace(1, pairs{{0, 9}}, 18), trace(0, nil, 0)}, false},
	} {
		if got := impl.TracesHonest(sheet(c.texts...), c.list); got != c.want {
			t.Errorf("%s: TracesHonest of %v is %v", c.name, c.list, got)
		}
	}
}

func TestTracesOfBadSheets(t *testing.T) {
	for i, s := range badSheets() {
		for _, list := range [][]impl.Trace{nil, {{}}, {trace(0, nil, 7)}, {trace(1, nil, 7)}, numbered(60), numbered(61)} {
			if impl.TracesHonest(s, list) {
				t.Errorf("bad sheet %d: TracesHonest of %v is true", i, list)
			}
		}
	}
}

func TestTracesFindCases(t *testing.T) {
	first, second := trace(3, pairs{{1, 9}}, 18), trace(3, pairs{{1, 8}}, 16)
	other, nothing, again := trace(4, pairs{{1, 8}}, 5), trace(3, nil, 7), trace(3, pairs{{2, 0}}, 20)
	list := []impl.Trace{first, other, second, again, nothing}
	for _, c := range []struct {
		name   string
		list   []impl.Trace
		key    int
		values []int
		want   []impl.Trace // one, or none if none is found
	}{
		{"no traces", nil, 3, []int{0, 9}, nil},
		{"no traces and no values", []impl.Trace{}, 0, nil, nil},
		{"the first one", list, 3, []int{0, 9}, []impl.Trace{first}},
		{"only a later one", list[:3], 3, []int{0, 8}, []impl.Trace{second}},
		{"the first one of later ones", list, 3, []int{0, 8}, []impl.Trace{second}},
		{"behind those that do not hold", list, 3, []int{0, 7}, []impl.Trace{again}},
		{"none of them", list[:3], 3, []int{0, 7}, nil},
		{"a missing key", list, 3, nil, []impl.Trace{again}},
		{"nothing used", list, 3, []int{0, 7, 1}, []impl.Trace{nothing}},
		{"nothing used, and no values", []impl.Trace{nothing}, 3, nil, []impl.Trace{nothing}},
		{"nothing used, first", []impl.Trace{nothing, first}, 3, []int{0, 9}, []impl.Trace{nothing}},
		{"of another key", list, 4, []int{0, 8}, []impl.Trace{other}},
		{"of another key, which does not hold", list, 4, []int{0, 9}, nil},
		{"of a key without traces", list, 5, []int{0, 9}, nil},
		{"of a key without traces, the zero one", list, 0, nil, nil},
		{"of no key", list, -1, []int{0, 9}, nil},
		{"of no key behind all", list, 10, []int{0, 9}, nil},
		{"of no key, far away", list, math.MinInt, nil, nil},
		{"the zero trace", []impl.Trace{{}}, 0, nil, []impl.Trace{{}}},
		{"two that hold, with other values", []impl.Trace{trace(3, pairs{{1, 9}}, 1), trace(3, pairs{{1, 9}}, 2)}, 3, []int{0, 9}, []impl.Trace{trace(3, pairs{{1, 9}}, 1)}},
		{"the last one of sixty", append(numbered(59), trace(3, nil, 96)), 3, []int{96, 96, 96, 96, 96, 96, 96}, []impl.Trace{trace(3, nil, 96)}},
		{"its own key", []impl.Trace{trace(3, pairs{{3, 5}}, 6), trace(3, pairs{{3, 6}}, 7)}, 3, []int{0, 0, 0, 6}, []impl.Trace{trace(3, pairs{{3, 6}}, 7)}},
	} {
		got, ok := impl.TracesFind(c.list, c.key, c.values)
		if want := len(c.want) == 1; ok != want || ok && !sameTrace(got, c.want[0]) || !ok && !isNoTrace(got) {
			t.Errorf("%s: TracesFind of %d with %v is %v, %v, not %v", c.name, c.key, c.values, got, ok, c.want)
		}
	}
}

func TestTracesPutCases(t *testing.T) {
	a, b, nothing := trace(3, pairs{{1, 9}, {2, 4}}, 18), trace(4, pairs{{1, 9}}, 18), trace(3, nil, 7)
	turned := trace(3, pairs{{2, 4}, {1, 9}}, 18)
	full := numbered(60)
	for _, c := range []struct {
		name  string
		list  []impl.Trace
		trace impl.Trace
		want  []impl.Trace
	}{
		{"to none", nil, a, []impl.Trace{a}},
		{"to none, which are empty", []impl.Trace{}, a, []impl.Trace{a}},
		{"one that used nothing", []impl.Trace{a}, nothing, []impl.Trace{a, nothing}},
		{"one that used nothing, to none", nil, nothing, []impl.Trace{nothing}},
		{"the zero trace", nil, impl.Trace{}, []impl.Trace{{}}},
		{"behind", []impl.Trace{a, b}, nothing, []impl.Trace{a, b, nothing}},
		{"the same one", []impl.Trace{a}, a, []impl.Trace{a}},
		{"the same one, which is the first", []impl.Trace{a, b, nothing}, a, []impl.Trace{a, b, nothing}},
		{"the same one, which is the middle one", []impl.Trace{a, b, nothing}, b, []impl.Trace{a, b, nothing}},
		{"the same one, which is the last", []impl.Trace{a, b, nothing}, nothing, []impl.Trace{a, b, nothing}},
		{"the same one, which used nothing, nil or empty", []impl.Trace{nothing, b}, impl.Trace{Key: 3, Used: []impl.Fetch{}, Value: 7}, []impl.Trace{nothing, b}},
		{"the same one, which is there twice", []impl.Trace{a, b, a}, a, []impl.Trace{a, b, a}},
		{"another one, to the same ones", []impl.Trace{a, a}, b, []impl.Trace{a, a, b}},
		{"another key", []impl.Trace{a}, trace(4, pairs{{1, 9}, {2, 4}}, 18), []impl.Trace{a, trace(4, pairs{{1, 9}, {2, 4}}, 18)}},
		{"another value", []impl.Trace{a}, trace(3, pairs{{1, 9}, {2, 4}}, 19), []impl.Trace{a, trace(3, pairs{{1, 9}, {2, 4}}, 19)}},
		{"another order", []impl.Trace{a}, turned, []impl.Trace{a, turned}},
		{"used less", []impl.Trace{a}, trace(3, pairs{{1, 9}}, 18), []impl.Trace{a, trace(3, pairs{{1, 9}}, 18)}},
		{"used more", []impl.Trace{a}, trace(3, pairs{{1, 9}, {2, 4}, {0, 0}}, 18), []impl.Trace{a, trace(3, pairs{{1, 9}, {2, 4}, {0, 0}}, 18)}},
		{"used another value", []impl.Trace{a}, trace(3, pairs{{1, 9}, {2, 5}}, 18), []impl.Trace{a, trace(3, pairs{{1, 9}, {2, 5}}, 18)}},
		{"used another key", []impl.Trace{a}, trace(3, pairs{{1, 9}, {0, 4}}, 18), []impl.Trace{a, trace(3, pairs{{1, 9}, {0, 4}}, 18)}},
		{"used nothing instead", []impl.Trace{a}, trace(3, nil, 18), []impl.Trace{a, trace(3, nil, 18)}},
		{"the last one that may be", full[:59], a, append(slices.Clone(full[:59]), a)},
		{"one more than there may be", full, a, append(slices.Clone(full[1:]), a)},
		{"as many as there may be, the first again", full, full[0], full},
		{"as many as there may be, the last again", full, full[59], full},
		{"as many as there may be, all the same", slices.Repeat([]impl.Trace{a}, 60), a, slices.Repeat([]impl.Trace{a}, 60)},
		{"one more than there may be, all others the same", slices.Repeat([]impl.Trace{a}, 60), b, append(slices.Repeat([]impl.Trace{a}, 59), b)},
	} {
		got, ok := impl.TracesPut(c.list, c.trace)
		if !ok || !sameTraces(got, c.want) {
			t.Errorf("%s: TracesPut is %v, %v, not %v", c.name, got, ok, c.want)
		}
	}
}

// A hundred traces are put one behind the other: the last sixty stay.
func TestTracesPutAgainAndAgain(t *testing.T) {
	all := numbered(97)
	var list []impl.Trace
	for i, x := range all {
		got, ok := impl.TracesPut(list, x)
		if want := all[max(0, i-59) : i+1]; !ok || !sameTraces(got, want) {
			t.Errorf("TracesPut of the trace %d is %v, %v", i, got, ok)
		}
		list = got
	}
	if got, ok := impl.TracesPut(list, all[0]); !ok || !sameTraces(got, append(slices.Clone(all[38:]), all[0])) {
		t.Errorf("TracesPut of one that was dropped is %v, %v", got, ok)
	}
}

// plainTrace returns the trace of a task with values, as the chapter tells.
func plainTrace(key int, task impl.Task, values []int) impl.Trace {
	value, list := plainFetches(task, values)
	x := impl.Trace{Key: key, Value: value}
	for _, used := range firstKeys(list) {
		x.Used = append(x.Used, impl.Fetch{Key: used, Value: plainValue(values, used)})
	}
	return x
}

// plainHolds reports whether a trace holds for values.
func plainHolds(x impl.Trace, values []int) bool {
	return !slices.ContainsFunc(x.Used, func(f impl.Fetch) bool { return plainValue(values, f.Key) != f.Value })
}

// plainHonest reports whether traces, which are ones, are honest for a sheet, which is one.
func plainHonest(s impl.Sheet, list []impl.Trace) bool {
	for _, x := range list {
		var values [10]int
		for _, f := range x.Used {
			values[f.Key] = f.Value
		}
		if x.Key >= len(s.Made) || !s.Made[x.Key] || !sameTrace(x, plainTrace(x.Key, s.Tasks[x.Key], values[:])) {
			return false
		}
	}
	return true
}

// randomTrace makes a trace that often holds for few values: it is of few keys, and what it used had 0 or 1.
func randomTrace(r *rand.Rand) impl.Trace {
	x := impl.Trace{Key: r.Intn(3), Value: r.Intn(3)}
	for _, key := range r.Perm(10)[:r.Intn(4)] {
		x.Used = append(x.Used, impl.Fetch{Key: key % 4, Value: r.Intn(2)})
		if !slices.Equal(firstKeys(x.Used), keysOf(x.Used)) {
			x.Used = x.Used[:len(x.Used)-1]
		}
	}
	return x
}

// keysOf returns the keys of fetches, in order.
func keysOf(list []impl.Fetch) []int {
	var keys []int
	for _, f := range list {
		keys = append(keys, f.Key)
	}
	return keys
}

// smallValues makes values of 0 and 1 of up to five keys.
func smallValues(r *rand.Rand) []int {
	values := make([]int, r.Intn(6))
	for i := range values {
		values[i] = r.Intn(2)
	}
	return values
}

// eachTraces calls f with many lists of traces, which are ones, and with values; some lists are as long as can be.
func eachTraces(f func(r *rand.Rand, list []impl.Trace, values []int)) {
	r := rand.New(rand.NewSource(7))
	for i := range 3000 {
		count := r.Intn(9)
		if i%10 == 0 {
			count = 56 + r.Intn(5)
		}
		list := make([]impl.Trace, count)
		for i := range list {
			list[i] = randomTrace(r)
		}
		f(r, list, smallValues(r))
	}
}

// Promise 22: TraceHolds of TraceOf and the values holds, and its value is TaskValue.
func TestPromise22(t *testing.T) {
	r := rand.New(rand.NewSource(8))
	nothing, less, own := 0, 0, 0
	eachTask(func(text string, task impl.Task, values []int) {
		key := r.Intn(10)
		got, ok := impl.TraceOf(key, task, values)
		if want := plainTrace(key, task, values); !ok || !sameTrace(got, want) {
			t.Errorf("TraceOf %d, %s with %v is %v, %v, not %v", key, text, values, got, ok, want)
		}
		if !impl.TraceHolds(got, values) {
			t.Errorf("TraceHolds of %v, the trace of %s with %v, is false", got, text, values)
		}
		if value, ok := impl.TaskValue(task, values); !ok || value != got.Value {
			t.Errorf("TaskValue of %s with %v is %d, %v, but %d in the trace", text, values, value, ok, got.Value)
		}
		if len(got.Used) == 0 {
			nothing++
		}
		if list, _ := impl.TaskFetches(task, values); len(got.Used) < len(list) {
			less++
		}
		if slices.Contains(keysOf(got.Used), key) {
			own++
		}
	})
	if nothing < 100 || less < 100 || own < 100 {
		t.Errorf("%d traces used nothing, %d less than was fetched, %d their own key", nothing, less, own)
	}
}

// Promise 23: TraceHolds of a trace that used less holds, too. The other way round, it does not hold if it used one key more with another value.
func TestPromise23(t *testing.T) {
	holds, not := 0, 0
	check := func(x impl.Trace, values []int) {
		got := impl.TraceHolds(x, values)
		if want := plainHolds(x, values); got != want {
			t.Errorf("TraceHolds of %v with %v is %v", x, values, got)
		}
		if !got {
			not++
			return
		}
		for i := range x.Used {
			holds++
			short := impl.Trace{Key: x.Key, Used: slices.Delete(slices.Clone(x.Used), i, i+1), Value: x.Value}
			if !impl.TraceHolds(short, values) || !impl.TraceHolds(impl.Trace{Key: x.Key, Used: x.Used[:i], Value: x.Value}, values) {
				t.Errorf("TraceHolds of %v with %v is true, but not without what stands at %d", x, values, i)
			}
		}
		for key := range 10 {
			more := impl.Trace{Key: x.Key, Used: append(slices.Clone(x.Used), impl.Fetch{Key: key, Value: 95}), Value: x.Value}
			if impl.TraceHolds(more, values) && plainValue(values, key) != 95 {
				t.Errorf("TraceHolds of %v with %v is true", more, values)
			}
		}
	}
	eachTraces(func(r *rand.Rand, list []impl.Trace, values []int) {
		for _, x := range list {
			check(x, values)
		}
	})
	eachTask(func(text string, task impl.Task, values []int) {
		check(plainTrace(len(text)%10, task, values), values)
	})
	if holds < 1000 || not < 1000 {
		t.Errorf("%d keys were left out of traces that hold, %d traces do not hold", holds, not)
	}
}

// Promise 24: if TracesOk holds, it holds without the first trace.
func TestPromise24(t *testing.T) {
	full := 0
	eachTraces(func(r *rand.Rand, list []impl.Trace, values []int) {
		if len(list) == 60 {
			full++
		}
		for ; len(list) > 0; list = list[1:] {
			if !impl.TracesOk(list) {
				t.Errorf("TracesOk of %v is false", list)
			}
		}
		if !impl.TracesOk(list) {
			t.Errorf("TracesOk of no traces is false")
		}
	})
	if full < 10 {
		t.Errorf("%d lists had as many traces as there may be", full)
	}
	// TracesOk that does not hold without the first trace does not hold with it either.
	for _, bad := range badTraces() {
		for _, good := range []impl.Trace{{}, trace(3, nil, 5), trace(9, allTen(), 96)} {
			if impl.TracesOk([]impl.Trace{bad}) || impl.TracesOk([]impl.Trace{good, bad}) || impl.TracesOk([]impl.Trace{good, good, bad}) {
				t.Errorf("TracesOk of %v behind %v is true", bad, good)
			}
		}
	}
}

// honestTraces makes up to 60 honest traces of the made keys of a sheet, with values of a build from nothing, if that is told, and with others.
func honestTraces(r *rand.Rand, s impl.Sheet) []impl.Trace {
	built, _, ok := plainAll(s, make([]int, len(s.Made)))
	var list []impl.Trace
	for key, made := range s.Made {
		for range r.Intn(4) {
			values := randomValues(r)
			if ok && r.Intn(2) == 0 {
				values = built
			}
			if made && len(list) < 60 {
				list = append(list, plainTrace(key, s.Tasks[key], values))
			}
		}
	}
	return list
}

// spoilTrace returns a trace that differs from x at one place, and may be honest or not.
func spoilTrace(r *rand.Rand, x impl.Trace) impl.Trace {
	x.Used = slices.Clone(x.Used)
	at := r.Intn(len(x.Used) + 1)
	switch r.Intn(5) {
	case 0:
		x.Key = (x.Key + 1 + r.Intn(9)) % 10
	case 1:
		x.Value = (x.Value + 1 + r.Intn(96)) % 97
	case 2:
		if at < len(x.Used) {
			x.Used[at].Value = (x.Used[at].Value + 1 + r.Intn(96)) % 97
		}
	case 3:
		if at < len(x.Used) {
			x.Used = slices.Delete(x.Used, at, at+1)
		} else if key := r.Intn(10); !slices.Contains(keysOf(x.Used), key) {
			x.Used = append(x.Used, impl.Fetch{Key: key, Value: r.Intn(3)})
		}
	case 4:
		slices.Reverse(x.Used[at:])
	}
	return x
}

// Promise 25: if traces are honest, and one holds for BuildAll of noughts, its value is that of its key there.
func TestPromise25(t *testing.T) {
	r := rand.New(rand.NewSource(9))
	honest, not, holding := 0, 0, 0
	eachSheet(func(s impl.Sheet, inputs []int) {
		list := honestTraces(r, s)
		for i := range list {
			if r.Intn(3*len(list)) == 0 {
				list[i] = spoilTrace(r, list[i])
			}
		}
		got := impl.TracesHonest(s, list)
		if want := plainHonest(s, list); got != want {
			t.Errorf("TracesHonest of %v in %q is %v", list, impl.SheetText(s), got)
		}
		if !got {
			not++
			return
		}
		honest++
		values, ok := impl.BuildAll(s, make([]int, len(s.Made)))
		for _, x := range list {
			if ok && impl.TraceHolds(x, values) {
				holding++
				if values[x.Key] != x.Value {
					t.Errorf("%v holds for %v, which BuildAll of %q tells", x, values, impl.SheetText(s))
				}
			}
		}
	})
	if honest < 1000 || not < 1000 || holding < 1000 {
		t.Errorf("%d lists were honest, %d were not, %d traces did hold", honest, not, holding)
	}
}

// Promise 26: TracesFind, if it is told, holds, and is of the key.
func TestPromise26(t *testing.T) {
	first, later, none := 0, 0, 0
	eachTraces(func(r *rand.Rand, list []impl.Trace, values []int) {
		for key := -1; key <= 4; key++ {
			i := slices.IndexFunc(list, func(x impl.Trace) bool { return x.Key == key && plainHolds(x, values) })
			got, ok := impl.TracesFind(list, key, values)
			if ok != (i >= 0) || ok && !sameTrace(got, list[i]) || !ok && !isNoTrace(got) {
				t.Errorf("TracesFind of %d in %v with %v is %v, %v", key, list, values, got, ok)
			}
			switch {
			case !ok:
				none++
				continue
			case i == slices.IndexFunc(list, func(x impl.Trace) bool { return x.Key == key }):
				first++
			default:
				later++
			}
			if !impl.TraceHolds(got, values) || got.Key != key {
				t.Errorf("TracesFind of %d in %v with %v is %v, which does not hold, or is of another key", key, list, values, got)
			}
		}
	})
	if first < 1000 || later < 1000 || none < 1000 {
		t.Errorf("%d traces were the first of their keys, %d were not, %d were not found", first, later, none)
	}
}

// Promise 27: TracesPut has the trace, and putting it again changes nothing.
func TestPromise27(t *testing.T) {
	same, behind, dropped := 0, 0, 0
	eachTraces(func(r *rand.Rand, list []impl.Trace, values []int) {
		x := randomTrace(r)
		if len(list) > 0 && r.Intn(3) == 0 {
			x = copyTraces(list)[r.Intn(len(list))]
		}
		isX := func(y impl.Trace) bool { return sameTrace(x, y) }
		want := append(slices.Clone(list), x)
		switch {
		case slices.ContainsFunc(list, isX):
			want = list
			same++
		case len(list) == 60:
			want = want[1:]
			dropped++
		default:
			behind++
		}
		got, ok := impl.TracesPut(list, x)
		if !ok || !sameTraces(got, want) {
			t.Errorf("TracesPut of %v to %v is %v, %v", x, list, got, ok)
		}
		if !slices.ContainsFunc(got, isX) {
			t.Errorf("TracesPut of %v to %v does not have it: %v", x, list, got)
		}
		if again, ok := impl.TracesPut(got, x); !ok || !sameTraces(again, got) {
			t.Errorf("TracesPut of %v to %v again is %v, %v", x, got, again, ok)
		}
	})
	if same < 300 || behind < 1000 || dropped < 10 {
		t.Errorf("%d traces were there, %d were put behind, %d with one dropped", same, behind, dropped)
	}
}

// spread returns traces whose lists, and values, have further elements behind their ends.
func spread(list []impl.Trace) []impl.Trace {
	var space []impl.Trace
	for _, x := range append(copyTraces(list), trace(1, pairs{{2, 3}}, 4), trace(5, nil, 6)) {
		used := append(slices.Clone(x.Used), impl.Fetch{Key: 7, Value: 8}, impl.Fetch{Key: 9, Value: 10})
		space = append(space, impl.Trace{Key: x.Key, Used: used[:len(x.Used)], Value: x.Value})
	}
	return space
}

// behindEnds returns copies of traces with all that stands behind the ends of what they used.
func behindEnds(list []impl.Trace) []impl.Trace {
	var all []impl.Trace
	for _, x := range list {
		all = append(all, impl.Trace{Key: x.Key, Used: slices.Clone(x.Used[:cap(x.Used)]), Value: x.Value})
	}
	return all
}

// Arguments are not changed, not even behind the ends of the lists.
func TestTracesChangeNothing(t *testing.T) {
	s := sheet("(+ k1 k2)", "-", "7", "-")
	before := copySheet(s)
	eachTraces(func(r *rand.Rand, list []impl.Trace, values []int) {
		space, in := spread(list), append(slices.Clone(values), 11, 12, 13)
		kept, keptIn := behindEnds(space), slices.Clone(in)
		short, values := space[:len(list)], in[:len(values)]
		put := space[len(list)]
		impl.TracesOk(short)
		impl.TracesHonest(s, short)
		impl.TraceHolds(put, values)
		for key := range 3 {
			impl.TracesFind(short, key, values)
			impl.TraceOf(key, s.Tasks[key], values)
		}
		impl.TracesPut(short, put)
		for _, x := range short {
			impl.TracesPut(short, x)
		}
		if !sameTraces(behindEnds(space), kept) || !slices.Equal(in, keptIn) || !sameSheet(s, before) {
			t.Errorf("%v, %v or the sheet was changed", list, values)
		}
	})
}

// overwriteTraces writes over all memory of traces.
func overwriteTraces(list []impl.Trace) {
	for _, x := range list {
		used := x.Used[:cap(x.Used)]
		for i := range used {
			used[i] = impl.Fetch{Key: -1, Value: -1}
		}
	}
	list = list[:cap(list)]
	for i := range list {
		list[i] = trace(-1, pairs{{-1, -1}}, -1)
	}
}

// Results share no memory with arguments or each other, not even behind their ends.
func TestTracesShareNothing(t *testing.T) {
	task := read("(+ k1 (+ k2 k1))")
	eachTraces(func(r *rand.Rand, list []impl.Trace, values []int) {
		put, kept, keptValues := randomTrace(r), copyTraces(list), slices.Clone(values)
		keptPut := copyTraces([]impl.Trace{put})
		for _, x := range []impl.Trace{put, trace(9, pairs{{9, 9}}, 9)} {
			first, _ := impl.TracesPut(list, x)
			next, _ := impl.TracesPut(list, x)
			third, _ := impl.TracesPut(next, x)
			want := copyTraces(next)
			overwriteTraces(first)
			overwriteTraces(third)
			if !sameTraces(next, want) || !sameTraces(list, kept) || !sameTrace(put, keptPut[0]) {
				t.Errorf("TracesPut of %v to %v shares memory", keptPut[0], kept)
			}
		}
		found, _ := impl.TracesFind(list, put.Key, values)
		overwriteTraces([]impl.Trace{found})
		made, _ := impl.TraceOf(0, task, values)
		overwriteTraces([]impl.Trace{made})
		if !sameTraces(list, kept) || !slices.Equal(values, keptValues) {
			t.Errorf("TracesFind in %v or TraceOf with %v shares memory", kept, keptValues)
		}
	})
}

// Two traces of one result share no memory, even if they are the same one.
func TestPutTracesShareNothing(t *testing.T) {
	same := trace(3, pairs{{1, 9}, {2, 4}}, 18)
	for _, list := range [][]impl.Trace{{same, same, same}, slices.Repeat([]impl.Trace{same}, 60)} {
		for _, put := range []impl.Trace{same, trace(4, pairs{{1, 9}}, 5)} {
			got, _ := impl.TracesPut(list, put)
			for i := range got {
				want := copyTraces(got)
				overwriteTraces(got[i : i+1 : i+1])
				want[i] = got[i]
				if !sameTraces(got, want) {
					t.Errorf("the trace %d of %v shares memory with others", i, want)
				}
			}
		}
	}
}
