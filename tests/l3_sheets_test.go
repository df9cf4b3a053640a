package tests

import (
	"math"
	"math/rand"
	"slices"
	"strconv"
	"strings"
	"testing"

	"loop.example/buildroads/impl"
)

// noNumber stands for the value of a key that fails.
const noNumber = -1

// sheetCase is a sheet with inputs, and what is told of it: the values of its keys (noNumber if one fails), the circles on which they fail, and whether it is fixed and safe.
type sheetCase struct {
	name    string
	texts   []string
	inputs  []int
	values  []int
	circles [][]int
	fixed   bool
	safe    bool
}

func sheetCases() []sheetCase {
	list := append(soundCases(), circleCases()...)
	return append(list, unseenCases()...)
}

// soundCases are sheets of which no key fails.
func soundCases() []sheetCase {
	ten := []string{"-", "(+ k0 1)", "(+ k1 1)", "(* k2 k2)", "(+ k3 k1)", "-", "(? k5 k4 k3)", "(* k6 k6)", "(+ k7 k5)", "(+ k8 k8)"}
	return []sheetCase{
		{"no keys", nil, nil, nil, nil, true, true},
		{"an input", []string{"-"}, []int{96}, []int{96}, nil, true, true},
		{"a number", []string{"7"}, []int{0}, []int{7}, nil, true, true},
		{"the number 0", []string{"0"}, []int{0}, []int{0}, nil, true, true},
		{"what stands for a made key does not count", []string{"7", "k0"}, []int{96, 95}, []int{7, 7}, nil, true, true},
		{"squares", []string{"-", "(+ k0 1)", "(* k1 k1)"}, []int{4, 0, 0}, []int{4, 5, 25}, nil, true, true},
		{"modulo 97", []string{"(+ k2 k2)", "(* k0 k0)", "-"}, []int{0, 0, 96}, []int{95, 4, 96}, nil, true, true},
		{"later keys first", []string{"(+ k1 1)", "(+ k2 1)", "(+ k3 1)", "-"}, []int{1, 2, 3, 4}, []int{7, 6, 5, 4}, nil, true, true},
		{"one key for two others", []string{"(+ k1 k2)", "(* k3 2)", "(* k3 3)", "(+ k4 1)", "-"}, []int{0, 0, 0, 0, 9}, []int{50, 20, 30, 10, 9}, nil, true, true},
		{"no made key", []string{"-", "-", "-"}, []int{0, 96, 1}, []int{0, 96, 1}, nil, true, true},
		{"no input", []string{"1", "(+ k0 2)"}, []int{96, 96}, []int{1, 3}, nil, true, true},
		{"a choice, the first", []string{"(? k1 k2 k3)", "-", "-", "-"}, []int{0, 1, 5, 6}, []int{5, 1, 5, 6}, nil, false, true},
		{"a choice, the second", []string{"(? k1 k2 k3)", "-", "-", "-"}, []int{0, 0, 5, 6}, []int{6, 0, 5, 6}, nil, false, true},
		{"keys that are not there", []string{"(+ k1 5)", "k2", "(? k9 1 2)"}, []int{0, 0, 0}, []int{7, 2, 2}, nil, false, true},
		{"only keys that are not there", []string{"(+ k9 (* k1 k2))"}, []int{96}, []int{0}, nil, true, true},
		{"ten keys, by the choice of the first", ten, []int{1, 0, 0, 0, 0, 3, 0, 0, 0, 0}, []int{1, 2, 3, 9, 11, 3, 11, 24, 27, 54}, nil, false, true},
		{"ten keys, by the choice of the second", ten, []int{1, 0, 0, 0, 0, 0, 0, 0, 0, 0}, []int{1, 2, 3, 9, 11, 0, 9, 81, 81, 65}, nil, false, true},
	}
}

// circleCases are sheets of which some keys fail.
func circleCases() []sheetCase {
	const no = noNumber
	tail := []string{"(+ k1 0)", "k2", "k3", "k2", "-", "(+ k4 k9)"}
	return []sheetCase{
		{"a key that fetches itself", []string{"k0"}, []int{5}, []int{no}, [][]int{{0}}, true, false},
		{"the last key fetches itself", []string{"-", "(+ 1 k1)"}, []int{5, 6}, []int{5, no}, [][]int{nil, {1}}, true, false},
		{"the product of 0 and itself", []string{"(* 0 k0)"}, []int{0}, []int{no}, [][]int{{0}}, true, false},
		{"a key that fetches itself behind another one", []string{"(+ k1 k0)", "-"}, []int{0, 7}, []int{no, 7}, [][]int{{0}, nil}, true, false},
		{"a key that asks itself whether", []string{"(? k0 1 2)"}, []int{0}, []int{no}, [][]int{{0}}, false, false},
		{"a key that reckons itself", []string{"-", "(@0 k0)"}, []int{11, 0}, []int{11, no}, [][]int{nil, {1}}, false, false},
		{"two", []string{"k1", "k0"}, []int{0, 0}, []int{no, no}, [][]int{{0, 1}, {1, 0}}, true, false},
		{"three", []string{"k2", "k0", "k1"}, []int{1, 2, 3}, []int{no, no, no}, [][]int{{0, 2, 1}, {1, 0, 2}, {2, 1, 0}}, true, false},
		{"reached from outside", tail, []int{0, 0, 0, 0, 8, 0}, []int{no, no, no, no, 8, 8}, [][]int{{2, 3}, {2, 3}, {2, 3}, {3, 2}, nil, nil}, true, false},
		{"itself, reached from outside", []string{"k1", "k2", "k2"}, []int{0, 0, 0}, []int{no, no, no}, [][]int{{2}, {2}, {2}}, true, false},
		{"the first one of two circles", []string{"(+ k1 k2)", "k1", "k0"}, []int{0, 0, 0}, []int{no, no, no}, [][]int{{1}, {1}, {1}}, true, false},
		{"the first one of two others", []string{"(+ k2 k1)", "k1", "k0"}, []int{0, 0, 0}, []int{no, no, no}, [][]int{{0, 2}, {1}, {2, 0}}, true, false},
		{"back to the middle", []string{"(+ 1 k1)", "(+ 1 k2)", "(+ 1 k3)", "(+ 1 k1)"}, []int{0, 0, 0, 0}, []int{no, no, no, no}, [][]int{{1, 2, 3}, {1, 2, 3}, {2, 3, 1}, {3, 1, 2}}, true, false},
		{"behind what was built", []string{"(+ k2 (+ k2 k1))", "(+ k2 k0)", "(* k3 2)", "-"}, []int{0, 0, 0, 7}, []int{no, no, 14, 7}, [][]int{{0, 1}, {1, 0}, nil, nil}, true, false},
		{"ten", []string{"k1", "k2", "k3", "k4", "k5", "k6", "k7", "k8", "k9", "k0"}, make([]int, 10), slices.Repeat([]int{no}, 10), turns(10), true, false},
	}
}

// turns returns the circles of so many keys each of which fetches the next one.
func turns(keys int) [][]int {
	list := make([][]int, keys)
	for first := range keys {
		for i := range keys {
			list[first] = append(list[first], (first+i)%keys)
		}
	}
	return list
}

// unseenCases have circles that are not, or only with some inputs, looked at.
func unseenCases() []sheetCase {
	const no = noNumber
	either := []string{"(? k2 7 k1)", "(? k2 k0 8)", "-"}
	both := []string{"(? k2 7 k1)", "(? k2 8 k0)", "-"}
	reckoned := []string{"(@1 k2)", "5", "-"}
	return []sheetCase{
		{"itself, not looked at", []string{"(? 0 k0 7)"}, []int{0}, []int{7}, nil, false, false},
		{"itself, looked at", []string{"(? 1 k0 7)"}, []int{0}, []int{no}, [][]int{{0}}, false, false},
		{"two of which one ends, the first way", either, []int{0, 0, 1}, []int{7, 7, 1}, nil, false, false},
		{"two of which one ends, the second way", either, []int{0, 0, 0}, []int{8, 8, 0}, nil, false, false},
		{"two that end", both, []int{0, 0, 96}, []int{7, 8, 96}, nil, false, false},
		{"two that do not end", both, []int{0, 0, 0}, []int{no, no, 0}, [][]int{{0, 1}, {1, 0}, nil}, false, false},
		{"a key that is reckoned", reckoned, []int{0, 0, 0}, []int{5, 5, 0}, nil, false, false},
		{"a key that is reckoned: an input", reckoned, []int{0, 0, 11}, []int{11, 5, 11}, nil, false, false},
		{"a key that is reckoned: not there", reckoned, []int{0, 0, 3}, []int{0, 5, 3}, nil, false, false},
		{"a key that is reckoned: itself", reckoned, []int{0, 0, 9}, []int{no, 5, 9}, [][]int{{0}, nil, nil}, false, false},
		{"a reckoned number", []string{"(@1 0)", "5"}, []int{0, 0}, []int{5, 5}, nil, false, false},
	}
}

// checkKeys compares what is told of each key of a case.
func checkKeys(t *testing.T, c sheetCase, s impl.Sheet) {
	for key, want := range c.values {
		value, ok := impl.BuildKey(s, c.inputs, key)
		if ok != (want != noNumber) || value != max(want, 0) {
			t.Errorf("%s: BuildKey of %d is %d, %v, not %d", c.name, key, value, ok, want)
		}
		var circle []int
		if c.circles != nil {
			circle = c.circles[key]
		}
		got, ok := impl.CircleOf(s, c.inputs, key)
		if ok != (want == noNumber) || !slices.Equal(got, circle) {
			t.Errorf("%s: CircleOf of %d is %v, %v, not %v", c.name, key, got, ok, circle)
		}
	}
}

func TestSheetCases(t *testing.T) {
	for _, c := range sheetCases() {
		s := sheet(c.texts...)
		if !impl.SheetOk(s) {
			t.Errorf("%s: SheetOk is false", c.name)
		}
		if fixed := impl.SheetFixed(s); fixed != c.fixed {
			t.Errorf("%s: SheetFixed is %v", c.name, fixed)
		}
		if safe := impl.SheetSafe(s); safe != c.safe {
			t.Errorf("%s: SheetSafe is %v", c.name, safe)
		}
		checkKeys(t, c, s)
		values, ok := impl.BuildAll(s, c.inputs)
		if slices.Contains(c.values, noNumber) {
			if ok || len(values) != 0 {
				t.Errorf("%s: BuildAll is %v, %v", c.name, values, ok)
			}
		} else if !ok || !slices.Equal(values, c.values) {
			t.Errorf("%s: BuildAll is %v, %v, not %v", c.name, values, ok, c.values)
		}
	}
}

func TestSheetTexts(t *testing.T) {
	for _, c := range []struct {
		sheet impl.Sheet
		want  string
	}{
		{impl.Sheet{}, ""},
		{impl.Sheet{Made: []bool{}, Tasks: nil}, ""},
		{impl.Sheet{Made: nil, Tasks: []impl.Task{}}, ""},
		{sheet("-"), "-"},
		{sheet("0"), "=0"},
		{sheet("-", "-"), "- -"},
		{sheet("-", "(+ k0 1)", "(* k1 k1)"), "- =(+ k0 1) =(* k1 k1)"},
		{sheet("k0", "-", "(? k1 (+ k2 3) (@4 k0))"), "=k0 - =(? k1 (+ k2 3) (@4 k0))"},
		{sheet("0", "1", "2", "3", "4", "5", "6", "7", "-", "96"), "=0 =1 =2 =3 =4 =5 =6 =7 - =96"},
		{impl.Sheet{Made: []bool{false}, Tasks: []impl.Task{{Parts: []impl.Task{}}}}, "-"},
	} {
		if got := impl.SheetText(c.sheet); got != c.want || !impl.SheetOk(c.sheet) {
			t.Errorf("SheetText is %q, not %q", got, c.want)
		}
	}
}

// Ten keys are a sheet, eleven are none; ten inputs are values, eleven are none.
func TestMostKeys(t *testing.T) {
	for keys := range 20 {
		inputs, made := slices.Repeat([]string{"-"}, keys), slices.Repeat([]string{"96"}, keys)
		for _, s := range []impl.Sheet{sheet(inputs...), sheet(made...)} {
			want := keys <= 10
			if got := impl.SheetOk(s); got != want {
				t.Errorf("SheetOk of %d keys is %v", keys, got)
			}
			if values, ok := impl.BuildAll(s, make([]int, keys)); ok != want || ok && len(values) != keys || !ok && len(values) != 0 {
				t.Errorf("BuildAll of %d keys is %v, %v", keys, values, ok)
			}
			if impl.SheetFixed(s) != want || impl.SheetSafe(s) != want {
				t.Errorf("SheetFixed or SheetSafe of %d keys is not %v", keys, want)
			}
		}
	}
}

// badSheets are values of type Sheet that are no sheets.
func badSheets() []impl.Sheet {
	bools := func(made ...bool) []bool { return made }
	tasks := func(list ...impl.Task) []impl.Task { return list }
	list := []impl.Sheet{
		{Made: bools(false)}, {Made: bools(true)}, {Tasks: tasks(num(0))}, {Tasks: tasks(num(7))},
		{Made: bools(true, true), Tasks: tasks(num(7))}, {Made: bools(true), Tasks: tasks(num(7), num(7))},
		{Made: bools(false, false), Tasks: tasks(num(0))}, {Made: bools(false), Tasks: tasks(num(0), num(0))},
		{Made: make([]bool, 10), Tasks: make([]impl.Task, 9)}, {Made: make([]bool, 9), Tasks: make([]impl.Task, 10)},
		{Made: make([]bool, 10), Tasks: make([]impl.Task, 11)}, {Made: make([]bool, 11), Tasks: make([]impl.Task, 10)},
		{Made: make([]bool, 11), Tasks: make([]impl.Task, 11)}, {Made: slices.Repeat(bools(true), 11), Tasks: make([]impl.Task, 11)},
		{Made: make([]bool, 100000), Tasks: make([]impl.Task, 100000)}, {Made: make([]bool, 100000)}, {Tasks: make([]impl.Task, 100000)},
	}
	noInputs := append(badTasks(), num(1), num(96), get(0), get(9), add(num(0), num(0)), mul(num(0), num(0)), choose(num(0), num(0), num(0)), at(0, num(0)),
		impl.Task{Parts: tasks(num(0))}, impl.Task{Parts: make([]impl.Task, 1000)})
	for _, t := range noInputs {
		list = append(list, impl.Sheet{Made: bools(false), Tasks: tasks(t)}, impl.Sheet{Made: bools(true, false), Tasks: tasks(num(7), t)}, impl.Sheet{Made: bools(false, true), Tasks: tasks(t, num(7))})
	}
	for _, t := range badTasks() {
		list = append(list, impl.Sheet{Made: bools(true), Tasks: tasks(t)}, impl.Sheet{Made: bools(true, true), Tasks: tasks(num(7), t)}, impl.Sheet{Made: bools(true, false), Tasks: tasks(t, num(0))})
	}
	return list
}

// buildsNothing reports what is told by builds that are not to be.
func buildsNothing(t *testing.T, name string, s impl.Sheet, inputs []int, key int) {
	if value, ok := impl.BuildKey(s, inputs, key); ok || value != 0 {
		t.Errorf("%s: BuildKey of %d is %d, %v", name, key, value, ok)
	}
	if circle, ok := impl.CircleOf(s, inputs, key); ok || len(circle) != 0 {
		t.Errorf("%s: CircleOf of %d is %v, %v", name, key, circle, ok)
	}
}

func TestBadSheets(t *testing.T) {
	for i, s := range badSheets() {
		name := "bad sheet " + strconv.Itoa(i)
		if impl.SheetOk(s) || impl.SheetFixed(s) || impl.SheetSafe(s) {
			t.Errorf("%s: SheetOk, SheetFixed or SheetSafe is true", name)
		}
		if text := impl.SheetText(s); text != "" {
			t.Errorf("%s: SheetText is %q", name, text)
		}
		for _, inputs := range [][]int{nil, make([]int, len(s.Made)), make([]int, len(s.Tasks)), {97}} {
			for _, key := range []int{-1, 0, 1, 9, 10} {
				buildsNothing(t, name, s, inputs, key)
			}
			if values, ok := impl.BuildAll(s, inputs); ok || len(values) != 0 {
				t.Errorf("%s: BuildAll is %v, %v", name, values, ok)
			}
		}
	}
}

// Inputs that are none are refused also for keys that are made, and whether or not a key fails.
func TestBadInputs(t *testing.T) {
	for _, texts := range [][]string{nil, {"-"}, {"7"}, {"k0"}, {"-", "7"}, {"7", "-"}, {"k1", "k0"}, {"-", "k0", "k3"}, slices.Repeat([]string{"-"}, 10), slices.Repeat([]string{"5"}, 10)} {
		s := sheet(texts...)
		keys := len(texts)
		list := append(badValues(), make([]int, keys+1), make([]int, keys+2), make([]int, 10000))
		if keys > 0 {
			list = append(list, nil, []int{}, make([]int, keys-1))
		}
		for key := range keys {
			for _, v := range []int{97, 98, 1000, -1, -96, -97, math.MaxInt, math.MinInt} {
				inputs := make([]int, keys)
				inputs[key] = v
				list = append(list, inputs)
			}
		}
		for _, inputs := range list {
			name := strings.Join(texts, " ") + " and bad inputs"
			for key := -1; key <= keys; key++ {
				buildsNothing(t, name, s, inputs, key)
			}
			if values, ok := impl.BuildAll(s, inputs); ok || len(values) != 0 {
				t.Errorf("%s: BuildAll with %.12v is %v, %v", name, inputs, values, ok)
			}
		}
	}
}

// An input of 96 is one, that of 97 is none, also of a key that is made.
func TestTopInputs(t *testing.T) {
	s := sheet("-", "(+ k0 1)")
	for v := -200; v <= 200; v++ {
		want := v >= 0 && v <= 96
		for _, inputs := range [][]int{{v, 0}, {0, v}, {v, v}} {
			values, ok := impl.BuildAll(s, inputs)
			if ok != want || ok && !slices.Equal(values, []int{inputs[0], (inputs[0] + 1) % 97}) {
				t.Errorf("BuildAll with %v is %v, %v", inputs, values, ok)
			}
			if value, ok := impl.BuildKey(s, inputs, 1); ok != want || ok && value != (inputs[0]+1)%97 {
				t.Errorf("BuildKey with %v is %d, %v", inputs, value, ok)
			}
			if circle, ok := impl.CircleOf(sheet("-", "k1"), inputs, 1); ok != want || ok && !slices.Equal(circle, []int{1}) {
				t.Errorf("CircleOf with %v is %v, %v", inputs, circle, ok)
			}
		}
	}
}

func TestBadKeys(t *testing.T) {
	for _, texts := range [][]string{nil, {"-"}, {"7"}, {"k0"}, {"k1", "k0"}, {"-", "k0", "k3"}, slices.Repeat([]string{"-"}, 10), slices.Repeat([]string{"k0"}, 10)} {
		keys := len(texts)
		for _, key := range []int{-1, -2, keys, keys + 1, 10, 11, math.MaxInt, math.MinInt} {
			buildsNothing(t, strings.Join(texts, " "), sheet(texts...), make([]int, keys), key)
		}
	}
}

// Each of nine keys fetches the one ahead of it eight or fifteen times: what is built once is not built again for each.
func TestBuildsThatAreLong(t *testing.T) {
	power := 1 // the ninth one of 8, modulo 97
	for range 9 {
		power = power * 8 % 97
	}
	sum := func(key int) impl.Task { return sumLeft(8, get(key)) }
	reckoned := func(key int) impl.Task {
		task := get(key)
		for range 14 {
			task = at(key, task) // the key itself, for all values are 0
		}
		return task
	}
	for _, c := range []struct {
		task  func(key int) impl.Task
		input int
		want  int
	}{{sum, 1, power}, {reckoned, 0, 0}} {
		s, loop := sheet("-"), sheet("k9")
		for key := range 9 {
			s.Made, s.Tasks = append(s.Made, true), append(s.Tasks, c.task(key))
			loop.Made, loop.Tasks = append(loop.Made, true), append(loop.Tasks, c.task(key))
		}
		inputs := make([]int, 10)
		inputs[0] = c.input
		if got, ok := impl.BuildKey(s, inputs, 9); !ok || got != c.want {
			t.Errorf("BuildKey is %d, %v, not %d", got, ok, c.want)
		}
		if got, ok := impl.BuildAll(s, inputs); !ok || got[9] != c.want {
			t.Errorf("BuildAll is %v, %v, not %d at last", got, ok, c.want)
		}
		if got, ok := impl.CircleOf(s, inputs, 9); ok || len(got) != 0 {
			t.Errorf("CircleOf is %v, %v", got, ok)
		}
		if got, ok := impl.CircleOf(loop, inputs, 9); !ok || !slices.Equal(got, []int{9, 8, 7, 6, 5, 4, 3, 2, 1, 0}) {
			t.Errorf("CircleOf of a loop is %v, %v", got, ok)
		}
	}
}

// eachSheet calls f with many sheets and inputs.
func eachSheet(f func(s impl.Sheet, inputs []int)) {
	for _, c := range sheetCases() {
		f(sheet(c.texts...), c.inputs)
	}
	r := rand.New(rand.NewSource(4))
	for range 3000 {
		s := randomSheet(r)
		for range 4 {
			f(s, randomInputs(r, s))
		}
	}
}

// plainAll returns the values and circles of all keys of a sheet, and whether none fails.
func plainAll(s impl.Sheet, inputs []int) ([]int, [][]int, bool) {
	values, circles, all := make([]int, len(s.Made)), make([][]int, len(s.Made)), true
	for key := range s.Made {
		values[key], circles[key] = plainBuild(s, inputs, key, nil)
		all = all && circles[key] == nil
	}
	return values, circles, all
}

// Promise 11: if SheetOk holds, it holds without the last key.
func TestPromise11(t *testing.T) {
	eachSheet(func(s impl.Sheet, inputs []int) {
		for keys := len(s.Made); keys >= 0; keys-- {
			if part := (impl.Sheet{Made: s.Made[:keys], Tasks: s.Tasks[:keys]}); !impl.SheetOk(part) {
				t.Errorf("SheetOk of %q is false with %d keys", impl.SheetText(s), keys)
			}
		}
	})
}

// Promise 12: SheetText is empty just if the sheet has no keys, or is none.
func TestPromise12(t *testing.T) {
	eachSheet(func(s impl.Sheet, inputs []int) {
		var words []string
		for key, task := range s.Tasks {
			word, _ := plainText(task)
			if word = "=" + word; !s.Made[key] {
				word = "-"
			}
			words = append(words, word)
		}
		text := impl.SheetText(s)
		if want := strings.Join(words, " "); text != want {
			t.Errorf("SheetText is %q, not %q", text, want)
		}
		if (text == "") != (len(s.Made) == 0) {
			t.Errorf("SheetText of %d keys is %q", len(s.Made), text)
		}
	})
	for i, s := range badSheets() {
		if text := impl.SheetText(s); text != "" {
			t.Errorf("SheetText of bad sheet %d is %q", i, text)
		}
	}
}

// Promise 13: BuildKey of a made key is TaskValue of its task with BuildAll, if that is told.
func TestPromise13(t *testing.T) {
	made, others := 0, 0
	eachSheet(func(s impl.Sheet, inputs []int) {
		all, okAll := impl.BuildAll(s, inputs)
		want, circles, _ := plainAll(s, inputs)
		for key := range s.Made {
			got, ok := impl.BuildKey(s, inputs, key)
			if ok != (circles[key] == nil) || got != want[key] {
				t.Errorf("BuildKey of %d in %q with %v is %d, %v, not %d", key, impl.SheetText(s), inputs, got, ok, want[key])
			}
			if ok && !okAll {
				others++
			}
			if !okAll || !s.Made[key] {
				continue
			}
			made++
			if value, okValue := impl.TaskValue(s.Tasks[key], all); !ok || !okValue || value != got {
				t.Errorf("BuildKey of %d in %q with %v is %d, %v, TaskValue with BuildAll %d, %v", key, impl.SheetText(s), inputs, got, ok, value, okValue)
			}
		}
	})
	if made < 1000 || others < 1000 {
		t.Errorf("only %d made keys were built, and %d keys beside one that fails", made, others)
	}
}

// Promise 14: each value of BuildAll is that of its task with all of them, or of its input.
func TestPromise14(t *testing.T) {
	told, not := 0, 0
	eachSheet(func(s impl.Sheet, inputs []int) {
		all, ok := impl.BuildAll(s, inputs)
		want, _, okWant := plainAll(s, inputs)
		if ok != okWant || ok && !slices.Equal(all, want) || !ok && len(all) != 0 {
			t.Errorf("BuildAll of %q with %v is %v, %v, not %v, %v", impl.SheetText(s), inputs, all, ok, want, okWant)
		}
		if !ok {
			not++
			return
		}
		told++
		for key, value := range all {
			want := inputs[key]
			if s.Made[key] {
				want, _ = plainFetches(s.Tasks[key], all)
			}
			if value != want {
				t.Errorf("BuildAll of %q with %v has %d for the key %d, not %d", impl.SheetText(s), inputs, value, key, want)
			}
		}
	})
	if told < 1000 || not < 1000 {
		t.Errorf("BuildAll was told %d times, and %d times not", told, not)
	}
}

// Promise 15: CircleOf is told just if BuildKey is not, for inputs and a key; its keys are made, and each may fetch the next one, the last one the first.
func TestPromise15(t *testing.T) {
	long, outside := 0, 0
	eachSheet(func(s impl.Sheet, inputs []int) {
		for key := range s.Made {
			_, built := impl.BuildKey(s, inputs, key)
			circle, ok := impl.CircleOf(s, inputs, key)
			_, want := plainBuild(s, inputs, key, nil)
			if ok == built || !slices.Equal(circle, want) {
				t.Errorf("CircleOf of %d in %q with %v is %v, %v, not %v", key, impl.SheetText(s), inputs, circle, ok, want)
			}
			if len(circle) > 2 {
				long++
			}
			if ok && !slices.Contains(circle, key) {
				outside++
			}
			for i, from := range circle {
				next := circle[(i+1)%len(circle)]
				if !s.Made[from] || !slices.Contains(impl.TaskMay(s.Tasks[from]), next) || slices.Contains(circle[:i], from) {
					t.Errorf("CircleOf of %d in %q with %v is %v: not by %d", key, impl.SheetText(s), inputs, circle, from)
				}
			}
		}
	})
	if long < 100 || outside < 100 {
		t.Errorf("only %d circles were of more than two keys, and %d were reached from outside", long, outside)
	}
}

// Promise 16: if SheetFixed holds, each task is TaskFixed.
func TestPromise16(t *testing.T) {
	fixed, other := 0, 0
	eachSheet(func(s impl.Sheet, inputs []int) {
		want := true
		for _, task := range s.Tasks {
			text, _ := plainText(task)
			want = want && !strings.ContainsAny(text, "?@") && impl.TaskFixed(task)
		}
		if got := impl.SheetFixed(s); got != want {
			t.Errorf("SheetFixed of %q is %v", impl.SheetText(s), got)
		}
		if want {
			fixed++
		} else {
			other++
		}
	})
	if fixed < 1000 || other < 1000 {
		t.Errorf("%d sheets were fixed, %d not", fixed, other)
	}
}

// Promise 17: if SheetSafe holds, BuildAll is told whatever the inputs are: of noughts, and of 1 for each key.
func TestPromise17(t *testing.T) {
	safe, unsafeTold := 0, 0
	eachSheet(func(s impl.Sheet, inputs []int) {
		want := plainSafe(s)
		if got := impl.SheetSafe(s); got != want {
			t.Errorf("SheetSafe of %q is %v", impl.SheetText(s), got)
		}
		if want && len(s.Made) > 5 {
			safe++
		}
		for _, in := range [][]int{make([]int, len(s.Made)), slices.Repeat([]int{1}, len(s.Made)), inputs} {
			values, ok := impl.BuildAll(s, in)
			if want && !ok {
				t.Errorf("SheetSafe of %q holds, but BuildAll with %v is %v, %v", impl.SheetText(s), in, values, ok)
			}
			if !want && ok {
				unsafeTold++
			}
		}
	})
	if safe < 1000 || unsafeTold < 1000 {
		t.Errorf("%d larger sheets were safe, %d that are not were built", safe, unsafeTold)
	}
}

// Arguments are not changed, not even behind the end of the inputs.
func TestSheetsChangeNothing(t *testing.T) {
	eachSheet(func(s impl.Sheet, inputs []int) {
		before := copySheet(s)
		space := append(slices.Clone(inputs), 11, 12, 13)
		kept := slices.Clone(space)
		short := space[:len(inputs)]
		impl.SheetOk(s)
		impl.SheetText(s)
		impl.SheetFixed(s)
		impl.SheetSafe(s)
		impl.BuildAll(s, short)
		for key := range s.Made {
			impl.BuildKey(s, short, key)
			impl.CircleOf(s, short, key)
		}
		if !slices.Equal(space, kept) || !sameSheet(s, before) {
			t.Errorf("%q or %v was changed", impl.SheetText(before), kept)
		}
	})
}

// Results share no memory, not even behind their ends: writing over one leaves the inputs and the next result as they were.
func TestSheetsShareNothing(t *testing.T) {
	eachSheet(func(s impl.Sheet, inputs []int) {
		before, kept := copySheet(s), slices.Clone(inputs)
		check := func(first, next []int) {
			want := slices.Clone(next)
			overwrite(first)
			if !slices.Equal(next, want) || !slices.Equal(inputs, kept) || !sameSheet(s, before) {
				t.Errorf("results of %q with %v share memory", impl.SheetText(before), kept)
			}
		}
		first, _ := impl.BuildAll(s, inputs)
		next, _ := impl.BuildAll(s, inputs)
		check(first, next)
		for key := range s.Made {
			first, _ := impl.CircleOf(s, inputs, key)
			next, _ := impl.CircleOf(s, inputs, key)
			check(first, next)
		}
	})
}
