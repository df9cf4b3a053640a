package tests

import (
	"math"
	"math/rand"
	"slices"
	"strconv"
	"testing"

	"loop.example/buildroads/impl"
)

// fetchingCase is a task with values, what it fetches then, in order (pairs of a key and a value), its value and its TaskMay.
type fetchingCase struct {
	text    string
	values  []int
	fetches pairs
	value   int
	may     []int
}

type pairs [][2]int

// list returns the fetches that pairs stand for.
func (p pairs) list() []impl.Fetch {
	var list []impl.Fetch
	for _, pair := range p {
		list = append(list, impl.Fetch{Key: pair[0], Value: pair[1]})
	}
	return list
}

func fetchingCases() []fetchingCase {
	all := []int{0, 1, 2, 3, 4, 5, 6, 7, 8, 9}
	ten := []int{96, 1, 2, 3, 4, 5, 6, 7, 8, 95}
	return []fetchingCase{
		{"0", nil, nil, 0, nil},
		{"96", ten, nil, 96, nil},
		{"(+ 96 1)", nil, nil, 0, nil},
		{"(+ 96 96)", ten, nil, 95, nil},
		{"(* 96 96)", ten, nil, 1, nil},
		{"(* 10 10)", ten, nil, 3, nil},
		{"k0", []int{96}, pairs{{0, 96}}, 96, []int{0}},
		{"k9", ten, pairs{{9, 95}}, 95, []int{9}},
		// keys that are not there
		{"k0", nil, pairs{{0, 0}}, 0, []int{0}},
		{"k0", []int{}, pairs{{0, 0}}, 0, []int{0}},
		{"k1", []int{5}, pairs{{1, 0}}, 0, []int{1}},
		{"k9", ten[:9], pairs{{9, 0}}, 0, []int{9}},
		{"(+ k2 k1)", []int{7, 8}, pairs{{2, 0}, {1, 8}}, 8, []int{1, 2}},
		// keys that are fetched twice
		{"(+ k1 k1)", []int{0, 50}, pairs{{1, 50}, {1, 50}}, 3, []int{1}},
		{"(* k3 (+ k2 k3))", ten, pairs{{3, 3}, {2, 2}, {3, 3}}, 15, []int{2, 3}},
		{"(+ k5 (+ k5 k5))", nil, pairs{{5, 0}, {5, 0}, {5, 0}}, 0, []int{5}},
		{"(@1 k1)", []int{4, 0}, pairs{{1, 0}, {1, 0}}, 0, all},
		{"(? k2 k2 k1)", ten, pairs{{2, 2}, {2, 2}}, 2, []int{1, 2}},
		// products by 0 fetch both
		{"(* k9 k0)", []int{96}, pairs{{9, 0}, {0, 96}}, 0, []int{0, 9}},
		{"(* 0 k4)", ten, pairs{{4, 4}}, 0, []int{4}},
		// the part of a choice that is not looked at
		{"(? k0 k1 k2)", ten, pairs{{0, 96}, {1, 1}}, 1, []int{0, 1, 2}},
		{"(? k0 k1 k2)", []int{0, 8, 9}, pairs{{0, 0}, {2, 9}}, 9, []int{0, 1, 2}},
		{"(? k0 k1 k2)", nil, pairs{{0, 0}, {2, 0}}, 0, []int{0, 1, 2}},
		{"(? 1 2 k3)", ten, nil, 2, []int{3}},
		{"(? 0 k3 2)", ten, nil, 2, []int{3}},
		{"(? 0 (@1 2) k8)", ten, pairs{{8, 8}}, 8, all},
		{"(? (+ 96 1) k4 k5)", ten, pairs{{5, 5}}, 5, []int{4, 5}},
		{"(? (* k2 k3) k4 k5)", []int{0, 0, 96, 1}, pairs{{2, 96}, {3, 1}, {4, 0}}, 0, []int{2, 3, 4, 5}},
		// keys that are reckoned
		{"(@0 0)", ten, pairs{{0, 96}}, 96, all},
		{"(@9 0)", ten, pairs{{9, 95}}, 95, all},
		{"(@9 1)", ten, pairs{{0, 96}}, 96, all},
		{"(@1 9)", ten, pairs{{0, 96}}, 96, all},
		{"(@9 96)", ten, pairs{{5, 5}}, 5, all},
		{"(@4 k0)", ten, pairs{{0, 96}, {0, 96}}, 96, all},
		{"(@5 k9)", ten, pairs{{9, 95}, {0, 96}}, 96, all},
		{"(@5 k7)", ten[:2], pairs{{7, 0}, {5, 0}}, 0, all},
		{"(@8 (@9 k4))", ten, pairs{{4, 4}, {3, 3}, {1, 1}}, 1, all},
		{"(@7 (+ 96 8))", ten, pairs{{4, 4}}, 4, all},
		{"(? k1 (+ k2 3) (@4 k0))", []int{3, 0, 5}, pairs{{1, 0}, {0, 3}, {7, 0}}, 0, all},
		{"(? k1 (+ k2 3) (@4 k0))", []int{3, 1, 95}, pairs{{1, 1}, {2, 95}}, 1, all},
	}
}

// badValues are lists that are no values of keys.
func badValues() [][]int {
	list := [][]int{make([]int, 11), make([]int, 12), make([]int, 100000), slices.Repeat([]int{96}, 11)}
	for _, v := range []int{97, 98, 1000, -1, -96, -97, math.MaxInt, math.MinInt} {
		list = append(list, []int{v}, []int{0, v}, []int{0, 0, 0, 0, 0, 0, 0, 0, 0, v}, []int{v, 0, 0, 0, 0, 0, 0, 0, 0, 0})
	}
	return list
}

// eachTask calls f with many tasks and values of keys.
func eachTask(f func(text string, t impl.Task, values []int)) {
	for _, c := range fetchingCases() {
		f(c.text, read(c.text), c.values)
	}
	r := rand.New(rand.NewSource(2))
	for _, t := range manyTasks(60) {
		text, _ := plainText(t)
		for range 12 {
			f(text, t, randomValues(r))
		}
	}
}

func TestFetchingCases(t *testing.T) {
	for _, c := range fetchingCases() {
		task := read(c.text)
		if got, ok := impl.TaskValue(task, c.values); !ok || got != c.value {
			t.Errorf("TaskValue of %s with %v is %d, %v, not %d", c.text, c.values, got, ok, c.value)
		}
		fetches := c.fetches.list()
		if got, ok := impl.TaskFetches(task, c.values); !ok || !slices.Equal(got, fetches) {
			t.Errorf("TaskFetches of %s with %v are %v, %v, not %v", c.text, c.values, got, ok, fetches)
		}
		want := firstKeys(fetches)
		if got, ok := impl.TaskUses(task, c.values); !ok || !slices.Equal(got, want) {
			t.Errorf("TaskUses of %s with %v are %v, %v, not %v", c.text, c.values, got, ok, want)
		}
		if got := impl.TaskMay(task); !slices.Equal(got, c.may) {
			t.Errorf("TaskMay of %s are %v, not %v", c.text, got, c.may)
		}
		if !impl.TaskSame(task, c.values, c.values) {
			t.Errorf("TaskSame of %s with %v twice is false", c.text, c.values)
		}
	}
}

// Tasks of the most nodes fetch as often as they can.
func TestFetchingOfLargeTasks(t *testing.T) {
	ten := []int{1, 2, 3, 4, 5, 6, 7, 8, 9, 96}
	for _, c := range []struct {
		task  impl.Task
		value int
		count int
		uses  []int
	}{
		{sumLeft(8, get(9)), 89, 8, []int{9}},
		{sumRight(8, get(9)), 89, 8, []int{9}},
		{nest(14, get(0)), 7, 15, []int{0, 1, 2, 3, 4, 5, 6, 7, 8, 9}},
		{nest(14, num(96)), 8, 14, []int{6, 7, 8, 9}},
	} {
		text, _ := plainText(c.task)
		if got, ok := impl.TaskValue(c.task, ten); !ok || got != c.value {
			t.Errorf("TaskValue of %s is %d, %v, not %d", text, got, ok, c.value)
		}
		if got, ok := impl.TaskFetches(c.task, ten); !ok || len(got) != c.count {
			t.Errorf("TaskFetches of %s are %v, %v, not %d ones", text, got, ok, c.count)
		}
		got, ok := impl.TaskUses(c.task, ten)
		slices.Sort(got)
		if !ok || !slices.Equal(got, c.uses) {
			t.Errorf("TaskUses of %s are %v, %v, not %v", text, got, ok, c.uses)
		}
	}
}

// refuses reports what is told of a task and values of which one is none.
func refuses(t *testing.T, name string, task impl.Task, values []int) {
	if got, ok := impl.TaskValue(task, values); ok || got != 0 {
		t.Errorf("%s: TaskValue is %d, %v", name, got, ok)
	}
	if got, ok := impl.TaskFetches(task, values); ok || len(got) != 0 {
		t.Errorf("%s: TaskFetches are %v, %v", name, got, ok)
	}
	if got, ok := impl.TaskUses(task, values); ok || len(got) != 0 {
		t.Errorf("%s: TaskUses are %v, %v", name, got, ok)
	}
	if impl.TaskSame(task, values, values) {
		t.Errorf("%s: TaskSame is true", name)
	}
}

func TestFetchingOfBadTasks(t *testing.T) {
	for i, task := range badTasks() {
		name := "bad task " + strconv.Itoa(i)
		for _, values := range [][]int{nil, {}, {0}, slices.Repeat([]int{96}, 10)} {
			refuses(t, name, task, values)
		}
		refuses(t, name+" and bad values", task, make([]int, 11))
		if got := impl.TaskMay(task); len(got) != 0 {
			t.Errorf("%s: TaskMay are %v", name, got)
		}
	}
}

// Values that are none are refused also by tasks that do not fetch them.
func TestFetchingOfBadValues(t *testing.T) {
	good := slices.Repeat([]int{96}, 10)
	for _, text := range []string{"0", "k0", "k9", "(+ k0 k9)", "(? 0 k0 1)", "(@9 k1)"} {
		task := read(text)
		for _, values := range badValues() {
			name := text + " and bad values"
			refuses(t, name, task, values)
			if impl.TaskSame(task, good, values) || impl.TaskSame(task, values, good) ||
				impl.TaskSame(task, nil, values) || impl.TaskSame(task, values, nil) {
				t.Errorf("%s: TaskSame with %.12v is true", name, values)
			}
		}
	}
}

// Ten values are values, eleven are none; 96 is a value, 97 is none.
func TestMostValues(t *testing.T) {
	for n := range 20 {
		if _, ok := impl.TaskValue(get(9), make([]int, n)); ok != (n <= 10) {
			t.Errorf("TaskValue with %d values is told: %v", n, ok)
		}
	}
	for v := -200; v <= 200; v++ {
		got, ok := impl.TaskValue(get(0), []int{v})
		if want := v >= 0 && v <= 96; ok != want || ok && got != v {
			t.Errorf("TaskValue with the value %d is %d, %v", v, got, ok)
		}
		got, ok = impl.TaskValue(get(9), []int{0, 0, 0, 0, 0, 0, 0, 0, 0, v})
		if want := v >= 0 && v <= 96; ok != want || ok && got != v {
			t.Errorf("TaskValue with the last value %d is %d, %v", v, got, ok)
		}
	}
}

func TestAllSumsAndProducts(t *testing.T) {
	for a := range 97 {
		for b := range 97 {
			if got, ok := impl.TaskValue(add(num(a), get(0)), []int{b}); !ok || got != (a+b)%97 {
				t.Errorf("the sum of %d and %d is %d, %v", a, b, got, ok)
			}
			if got, ok := impl.TaskValue(mul(get(0), num(a)), []int{b}); !ok || got != a*b%97 {
				t.Errorf("the product of %d and %d is %d, %v", a, b, got, ok)
			}
		}
	}
}

// Each key that can be reckoned is the remainder by ten.
func TestAllReckonedKeys(t *testing.T) {
	for n := range 10 {
		for v := range 97 {
			got, ok := impl.TaskFetches(at(n, num(v)), nil)
			if want := (n + v) % 10; !ok || len(got) != 1 || got[0] != (impl.Fetch{Key: want}) {
				t.Errorf("(@%d %d) fetches %v, %v, not the key %d", n, v, got, ok, want)
			}
		}
	}
}

func TestSameCases(t *testing.T) {
	for _, c := range []struct {
		text string
		a, b []int
		want bool
	}{
		{"7", []int{1, 2}, []int{3}, true},
		{"k1", []int{1, 2}, []int{3, 2}, true},
		{"k1", []int{1, 2}, []int{1, 3}, false},
		{"k1", []int{1, 2}, []int{1, 2, 3, 4}, true},
		{"k1", []int{1, 2}, []int{1}, false},
		{"k1", []int{1}, []int{1, 2}, false},
		{"k1", []int{1}, []int{2, 0}, true},
		{"k1", []int{1, 0}, []int{}, true},
		{"k1", nil, []int{5}, true},
		{"k9", make([]int, 10), nil, true},
		{"k9", nil, []int{0, 0, 0, 0, 0, 0, 0, 0, 0, 1}, false},
		{"(+ k0 k1)", []int{1, 2}, []int{2, 1}, false}, // the same value, but not the same fetches
		{"(* k0 k1)", []int{0, 2}, []int{0, 1}, false},
		{"(+ k0 k0)", []int{1, 2}, []int{1, 3}, true},
		{"(? k0 k1 k2)", []int{1, 5, 6}, []int{1, 5, 7}, true},
		{"(? k0 k1 k2)", []int{1, 5, 6}, []int{1, 6, 6}, false},
		{"(? k0 k1 k2)", []int{1, 5, 5}, []int{2, 5, 5}, false},
		{"(? k0 k1 k2)", []int{0, 5, 6}, []int{0, 7, 6}, true},
		{"(? k0 k1 k2)", []int{0, 5, 6}, []int{0, 5, 7}, false},
		{"(@3 k0)", []int{8, 4}, []int{8, 4, 9}, true},
		{"(@3 k0)", []int{8, 4}, []int{8, 5}, false},
		{"(@3 k0)", []int{8, 4}, []int{18, 4}, false},
	} {
		if got := impl.TaskSame(read(c.text), c.a, c.b); got != c.want {
			t.Errorf("TaskSame of %s with %v and %v is %v", c.text, c.a, c.b, got)
		}
	}
}

// Promise 6: TaskValue with the values that TaskFetches tells, and 0 of all other keys, is the same.
func TestPromise6(t *testing.T) {
	eachTask(func(text string, task impl.Task, values []int) {
		value, ok := impl.TaskValue(task, values)
		list, okList := impl.TaskFetches(task, values)
		if want, _ := plainFetches(task, values); !ok || !okList || value != want {
			t.Errorf("TaskValue of %s with %v is %d, %v, not %d", text, values, value, ok, want)
		}
		told := make([]int, impl.KeysMost)
		for _, f := range list {
			told[f.Key] = f.Value
		}
		if again, ok := impl.TaskValue(task, told); !ok || again != value {
			t.Errorf("TaskValue of %s with %v is %d, %v, but %d with %v", text, told, again, ok, value, values)
		}
	})
}

// Promise 7: each value of TaskFetches is that of its key.
func TestPromise7(t *testing.T) {
	twice, beyond := 0, 0
	eachTask(func(text string, task impl.Task, values []int) {
		list, ok := impl.TaskFetches(task, values)
		if _, want := plainFetches(task, values); !ok || !slices.Equal(list, want) {
			t.Errorf("TaskFetches of %s with %v are %v, %v, not %v", text, values, list, ok, want)
		}
		for _, f := range list {
			if f.Key < 0 || f.Key > 9 || f.Value != plainValue(values, f.Key) {
				t.Errorf("TaskFetches of %s with %v have %v", text, values, f)
			}
			if f.Key >= len(values) {
				beyond++
			}
		}
		twice += len(list) - len(firstKeys(list))
	})
	if twice < 100 || beyond < 100 {
		t.Errorf("only %d keys were fetched again, and %d that are not there", twice, beyond)
	}
}

// Promise 8: TaskUses are among TaskMay, each once.
func TestPromise8(t *testing.T) {
	eachTask(func(text string, task impl.Task, values []int) {
		uses, ok := impl.TaskUses(task, values)
		_, list := plainFetches(task, values)
		if want := firstKeys(list); !ok || !slices.Equal(uses, want) {
			t.Errorf("TaskUses of %s with %v are %v, %v, not %v", text, values, uses, ok, want)
		}
		may := impl.TaskMay(task)
		for i, key := range uses {
			if !slices.Contains(may, key) {
				t.Errorf("TaskUses of %s with %v have %d, TaskMay are %v", text, values, key, may)
			}
			if slices.Contains(uses[:i], key) {
				t.Errorf("TaskUses of %s with %v are %v: not each once", text, values, uses)
			}
		}
	})
}

// Promise 9: TaskMay ascend, and have those of all parts. They are the keys in the text, or all if one is reckoned.
func TestPromise9(t *testing.T) {
	for _, task := range append(manyTasks(60), choose(num(0), get(9), get(3)), choose(num(1), get(3), at(0, num(0))), sumLeft(8, get(5))) {
		text, _ := plainText(task)
		may := impl.TaskMay(task)
		if want := plainMay(task); !slices.Equal(may, want) {
			t.Errorf("TaskMay of %s are %v, not %v", text, may, want)
		}
		for i := 1; i < len(may); i++ {
			if may[i-1] >= may[i] {
				t.Errorf("TaskMay of %s do not ascend: %v", text, may)
			}
		}
		for _, part := range task.Parts {
			for _, key := range impl.TaskMay(part) {
				if !slices.Contains(may, key) {
					t.Errorf("TaskMay of %s are %v without %d of a part", text, may, key)
				}
			}
		}
	}
}

// Promise 10: if TaskSame holds, TaskValue and TaskFetches with both values are the same. The second values are the first ones, changed in a few keys.
func TestPromise10(t *testing.T) {
	r := rand.New(rand.NewSource(3))
	same, other := 0, 0
	eachTask(func(text string, task impl.Task, a []int) {
		b := slices.Clone(a[:r.Intn(len(a)+1)])
		for len(b) < 10 && r.Intn(3) > 0 {
			b = append(b, plainValue(a, len(b)))
		}
		for range r.Intn(3) {
			if len(b) > 0 {
				b[r.Intn(len(b))] = r.Intn(97)
			}
		}
		_, list := plainFetches(task, a)
		want := !slices.ContainsFunc(list, func(f impl.Fetch) bool { return plainValue(b, f.Key) != f.Value })
		got := impl.TaskSame(task, a, b)
		if got != want {
			t.Errorf("TaskSame of %s with %v and %v is %v", text, a, b, got)
		}
		if !got {
			other++
			return
		}
		same++
		valueA, okA := impl.TaskValue(task, a)
		valueB, okB := impl.TaskValue(task, b)
		if !okA || !okB || valueA != valueB {
			t.Errorf("TaskSame of %s with %v and %v holds, but values are %d and %d", text, a, b, valueA, valueB)
		}
		fetchesA, okA := impl.TaskFetches(task, a)
		fetchesB, okB := impl.TaskFetches(task, b)
		if !okA || !okB || !slices.Equal(fetchesA, fetchesB) {
			t.Errorf("TaskSame of %s with %v and %v holds, but fetches are %v and %v", text, a, b, fetchesA, fetchesB)
		}
	})
	if same < 1000 || other < 1000 {
		t.Errorf("TaskSame was tried %d times where it holds, %d where it does not", same, other)
	}
}

// Arguments are not changed, not even behind the end of the values.
func TestFetchingChangesNothing(t *testing.T) {
	eachTask(func(text string, task impl.Task, values []int) {
		before := copyTask(task)
		space := append(slices.Clone(values), 11, 12, 13)
		kept := slices.Clone(space)
		short := space[:len(values)]
		impl.TaskValue(task, short)
		impl.TaskFetches(task, short)
		impl.TaskUses(task, short)
		impl.TaskMay(task)
		impl.TaskSame(task, short, short)
		if !slices.Equal(space, kept) || !sameTask(task, before) {
			t.Errorf("%s or %v was changed", text, values)
		}
	})
}

// Results share no memory, not even behind their ends: writing over one leaves the values and the next result as they were.
func TestFetchingSharesNothing(t *testing.T) {
	eachTask(func(text string, task impl.Task, values []int) {
		kept := slices.Clone(values)
		fetches, _ := impl.TaskFetches(task, values)
		uses, _ := impl.TaskUses(task, values)
		may := impl.TaskMay(task)
		nextFetches, _ := impl.TaskFetches(task, values)
		nextUses, _ := impl.TaskUses(task, values)
		nextMay := impl.TaskMay(task)
		wantFetches, wantUses, wantMay := slices.Clone(nextFetches), slices.Clone(nextUses), slices.Clone(nextMay)
		for i := range fetches[:cap(fetches)] {
			fetches[:cap(fetches)][i] = impl.Fetch{Key: -1, Value: -1}
		}
		overwrite(uses)
		overwrite(may)
		if !slices.Equal(nextFetches, wantFetches) || !slices.Equal(nextUses, wantUses) || !slices.Equal(nextMay, wantMay) || !slices.Equal(values, kept) {
			t.Errorf("results of %s with %v share memory", text, kept)
		}
	})
}

// overwrite writes over all memory of a list.
func overwrite(list []int) {
	list = list[:cap(list)]
	for i := range list {
		list[i] = -1
	}
}
