package tests

import (
	"math"
	"math/rand"
	"slices"
	"strconv"
	"testing"

	"loop.example/buildroads/impl"
)

// with returns an order of some keys with inputs.
func with(keys []int, inputs ...int) impl.Order {
	return impl.Order{Inputs: inputs, Keys: keys}
}

// perOrder is what is told of a row: a list for each order.
type perOrder = [][]int

// sameLists compares two lists of lists; those that are nil and empty ones are the same.
func sameLists(a, b perOrder) bool {
	return slices.EqualFunc(a, b, func(x, y []int) bool { return slices.Equal(x, y) })
}

// copyLists returns lists that share no memory with others.
func copyLists(a perOrder) perOrder {
	var b perOrder
	for _, list := range a {
		b = append(b, slices.Clone(list))
	}
	return b
}

// rowCase is a sheet, a row, and what is told of it: the values of keys, what is run by each way, and what is to be run.
type rowCase struct {
	name   string
	texts  []string
	row    []impl.Order
	values perOrder
	runs   [4]perOrder
	must   perOrder
}

// alike are runs that are the same by each way.
func alike(runs perOrder) [4]perOrder { return [4]perOrder{runs, runs, runs, runs} }

// aside is a key that fetches an input, and another input that nothing fetches.
func aside() []string { return []string{"-", "-", "k0"} }

// unseen is a key that fetches a made key only if an input is not 0.
func unseen() []string { return []string{"-", "-", "(+ k1 1)", "(? k0 k2 8)"} }

func shortRows() []rowCase {
	both := perOrder{{1, 2}}
	return []rowCase{
		{"no orders", two(), nil, nil, alike(nil), nil},
		{"no orders, a sheet of no keys", nil, nil, nil, alike(nil), nil},
		{"no orders, inputs alone", []string{"-", "-"}, nil, nil, alike(nil), nil},
		{"an order of no keys", two(), []impl.Order{with(nil, 4, 0, 0)}, perOrder{{}}, alike(perOrder{{}}), perOrder{{}}},
		{"one order", two(), []impl.Order{with([]int{2}, 4, 0, 0)}, perOrder{{25}}, alike(both), both},
		{"one order of the inner key", two(), []impl.Order{with([]int{1}, 4, 0, 0)}, perOrder{{5}}, alike(perOrder{{1}}), perOrder{{1}}},
		{"a key that is an input", two(), []impl.Order{with([]int{0, 1, 0}, 4, 0, 0), with([]int{0}, 96, 0, 0)}, perOrder{{4, 5, 4}, {96}}, alike(perOrder{{1}, {}}), perOrder{{1}, {}}},
		{"a key twice, and one that it fetches", two(), []impl.Order{with([]int{2, 2, 1, 2}, 4, 0, 0)}, perOrder{{25, 25, 5, 25}}, alike(both), both},
		{"a key beyond the sheet", []string{"(+ k5 3)"}, []impl.Order{with([]int{0}, 0), with([]int{0}, 0)}, perOrder{{3}, {3}}, alike(perOrder{{0}, {}}), perOrder{{0}, {}}},
		{"keys beyond the sheet, and an input", []string{"-", "(+ k9 (+ k0 k2))"}, []impl.Order{with([]int{1}, 5, 0), with([]int{1}, 6, 0), with([]int{1}, 5, 0)}, perOrder{{5}, {6}, {5}},
			[4]perOrder{{{1}, {1}, {1}}, {{1}, {1}, {1}}, {{1}, {1}, {}}, {{1}, {1}, {}}}, perOrder{{1}, {1}, {}}},
		{"inputs alone", []string{"-", "-"}, []impl.Order{with([]int{1, 0}, 3, 96), with([]int{1}, 4, 0)}, perOrder{{96, 3}, {0}}, alike(perOrder{{}, {}}), perOrder{{}, {}}},
		{"a sheet of no keys", nil, []impl.Order{with(nil), with([]int{})}, perOrder{{}, {}}, alike(perOrder{{}, {}}), perOrder{{}, {}}},
		{"inputs of made keys do not count", two(), []impl.Order{with([]int{2}, 4, 50, 7), with([]int{2}, 4, 96, 0)}, perOrder{{25}, {25}}, alike(perOrder{{1, 2}, {}}), perOrder{{1, 2}, {}}},
		{"keys that need no input", []string{"7", "(+ k0 1)", "(+ k1 k0)"}, []impl.Order{with([]int{1}, 0, 0, 0), with([]int{2}, 9, 9, 9), with([]int{0, 2}, 0, 0, 0)}, perOrder{{8}, {15}, {7, 15}}, alike(perOrder{{0, 1}, {2}, {}}), perOrder{{0, 1}, {2}, {}}},
		{"runs in order, and ascending", []string{"(+ k2 1)", "-", "(* k3 2)", "(+ k1 0)", "k2"}, []impl.Order{with([]int{4, 0}, 0, 6, 0, 0, 0), with([]int{0}, 0, 7, 0, 0, 0)}, perOrder{{12, 13}, {15}}, alike(perOrder{{3, 2, 4, 0}, {3, 2, 0}}), perOrder{{0, 2, 3, 4}, {0, 2, 3}}},
	}
}

// turningRows are rows with inputs that turn, and come back.
func turningRows() []rowCase {
	once, again := perOrder{{1, 2}, {1, 2}, {}}, perOrder{{1, 2}, {1, 2}, {1, 2}}
	inTurns := perOrder{{2, 3}, {2}, {2, 3}, {}}
	return []rowCase{
		{"the same order twice", two(), []impl.Order{with([]int{2}, 4, 0, 0), with([]int{2}, 4, 0, 0)}, perOrder{{25}, {25}}, alike(perOrder{{1, 2}, {}}), perOrder{{1, 2}, {}}},
		{"turned, and turned back", two(), []impl.Order{with([]int{2}, 4, 0, 0), with([]int{2}, 5, 0, 0), with([]int{2}, 4, 0, 0)}, perOrder{{25}, {36}, {25}}, [4]perOrder{again, again, once, once}, once},
		{"turned back to noughts, as they were at first", over(), []impl.Order{with([]int{2}, 0, 0, 0), with([]int{2}, 1, 0, 0), with([]int{2}, 0, 0, 0)}, perOrder{{2}, {3}, {2}}, [4]perOrder{again, again, once, once}, once},
		{"turned, and turned back, by way of a key that is as it was", nought(), []impl.Order{with([]int{2}, 3, 0, 0), with([]int{2}, 4, 0, 0), with([]int{2}, 3, 0, 0)}, perOrder{{1}, {1}, {1}},
			[4]perOrder{again, {{1, 2}, {1}, {1}}, {{1, 2}, {1}, {}}, once}, perOrder{{1, 2}, {1}, {}}},
		{"two inputs that turn, and both turn back", []string{"-", "-", "(+ k0 k1)", "k0"}, []impl.Order{with([]int{2, 3}, 1, 2, 0, 0), with([]int{2, 3}, 1, 3, 0, 0), with([]int{2, 3}, 2, 3, 0, 0), with([]int{2, 3}, 1, 2, 0, 0)}, perOrder{{3, 1}, {4, 1}, {5, 2}, {3, 1}},
			[4]perOrder{{{2, 3}, {2}, {2, 3}, {2, 3}}, {{2, 3}, {2}, {2, 3}, {2, 3}}, inTurns, inTurns}, inTurns},
		{"to and fro", two(), []impl.Order{with([]int{1}, 4, 0, 0), with([]int{1}, 5, 0, 0), with([]int{1}, 4, 0, 0), with([]int{1}, 5, 0, 0), with([]int{1}, 6, 0, 0), with([]int{1}, 4, 0, 0)}, perOrder{{5}, {6}, {5}, {6}, {7}, {5}},
			[4]perOrder{{{1}, {1}, {1}, {1}, {1}, {1}}, {{1}, {1}, {1}, {1}, {1}, {1}}, {{1}, {1}, {}, {}, {1}, {}}, {{1}, {1}, {}, {}, {1}, {}}}, perOrder{{1}, {1}, {}, {}, {1}, {}}},
		{"turned back in an order of no keys", two(), []impl.Order{with([]int{2}, 4, 0, 0), with(nil, 5, 0, 0), with([]int{2}, 4, 0, 0)}, perOrder{{25}, {}, {25}},
			[4]perOrder{{{1, 2}, {}, {1, 2}}, {{1, 2}, {}, {}}, {{1, 2}, {}, {}}, {{1, 2}, {}, {}}}, perOrder{{1, 2}, {}, {}}},
		{"turned back in an order of an input", two(), []impl.Order{with([]int{2}, 4, 0, 0), with([]int{0}, 5, 0, 0), with([]int{2}, 4, 0, 0)}, perOrder{{25}, {5}, {25}},
			[4]perOrder{{{1, 2}, {}, {1, 2}}, {{1, 2}, {}, {}}, {{1, 2}, {}, {}}, {{1, 2}, {}, {}}}, perOrder{{1, 2}, {}, {}}},
		{"not asked for, and asked for again", beside(), []impl.Order{with([]int{1, 2}, 1, 0, 0), with([]int{1}, 5, 0, 0), with([]int{2, 1}, 5, 0, 0)}, perOrder{{2, 3}, {6}, {7, 6}}, alike(perOrder{{1, 2}, {1}, {2}}), perOrder{{1, 2}, {1}, {2}}},
		{"not asked for, and asked for again, nothing turned", beside(), []impl.Order{with([]int{1, 2}, 1, 0, 0), with([]int{1}, 1, 0, 0), with([]int{2}, 1, 0, 0)}, perOrder{{2, 3}, {2}, {3}}, alike(perOrder{{1, 2}, {}, {}}), perOrder{{1, 2}, {}, {}}},
		{"not asked for, and asked for again, turned back", over(), []impl.Order{with([]int{2}, 3, 0, 0), with([]int{1}, 4, 0, 0), with([]int{2}, 3, 0, 0)}, perOrder{{5}, {5}, {5}},
			[4]perOrder{{{1, 2}, {1}, {1, 2}}, {{1, 2}, {1}, {1}}, {{1, 2}, {1}, {}}, {{1, 2}, {1}, {}}}, perOrder{{1, 2}, {1}, {}}},
		{"never asked for ahead", beside(), []impl.Order{with([]int{1}, 1, 0, 0), with([]int{2}, 1, 0, 0)}, perOrder{{2}, {3}}, alike(perOrder{{1}, {2}}), perOrder{{1}, {2}}},
	}
}

// seekingRows are rows in which keys are fetched by way of others, or not.
func seekingRows() []rowCase {
	branches := perOrder{{2, 3, 4}, {2, 4}, {2, 3, 4}}
	stored := perOrder{{2, 3, 4}, {2, 4}, {3, 4}}
	return []rowCase{
		{"by way of others alone", []string{"-", "(+ k0 1)", "k1", "(* k2 2)"}, []impl.Order{with([]int{3}, 4, 0, 0, 0), with([]int{3}, 5, 0, 0, 0)}, perOrder{{10}, {12}}, alike(perOrder{{1, 2, 3}, {1, 2, 3}}), perOrder{{1, 2, 3}, {1, 2, 3}}},
		{"asked for behind an order that fetched it", two(), []impl.Order{with([]int{2}, 4, 0, 0), with([]int{1}, 4, 0, 0)}, perOrder{{25}, {5}}, alike(perOrder{{1, 2}, {}}), perOrder{{1, 2}, {}}},
		{"fetched behind an order that asked for it", two(), []impl.Order{with([]int{1}, 4, 0, 0), with([]int{2}, 4, 0, 0)}, perOrder{{5}, {25}}, alike(perOrder{{1}, {2}}), perOrder{{1}, {2}}},
		{"what may be fetched, but is not", unseen(), []impl.Order{with([]int{3}, 0, 1, 0, 0), with([]int{3}, 0, 2, 0, 0), with([]int{3}, 1, 2, 0, 0)}, perOrder{{8}, {8}, {3}},
			[4]perOrder{{{3}, {3}, {2, 3}}, {{3}, {}, {2, 3}}, {{3}, {}, {2, 3}}, {{3}, {}, {2, 3}}}, perOrder{{3}, {}, {2, 3}}},
		{"fetched, not fetched, and fetched again", unseen(), []impl.Order{with([]int{3}, 1, 2, 0, 0), with([]int{3}, 0, 2, 0, 0), with([]int{3}, 1, 2, 0, 0)}, perOrder{{3}, {8}, {3}},
			[4]perOrder{{{2, 3}, {3}, {3}}, {{2, 3}, {3}, {3}}, {{2, 3}, {3}, {}}, {{2, 3}, {3}, {}}}, perOrder{{2, 3}, {3}, {}}},
		{"one of both branches", branch(), []impl.Order{with([]int{4}, 1, 5, 0, 0, 0), with([]int{4}, 0, 6, 0, 0, 0), with([]int{4}, 1, 6, 0, 0, 0)}, perOrder{{6}, {7}, {7}}, [4]perOrder{branches, branches, stored, stored}, stored},
		{"a trace of two orders ahead", over(), []impl.Order{with([]int{1, 2}, 3, 0, 0), with([]int{2}, 4, 0, 0), with([]int{1}, 3, 0, 0)}, perOrder{{4, 5}, {6}, {4}},
			[4]perOrder{{{1, 2}, {1, 2}, {1}}, {{1, 2}, {1, 2}, {1}}, {{1, 2}, {1, 2}, {}}, {{1, 2}, {1, 2}, {}}}, perOrder{{1, 2}, {1, 2}, {}}},
		{"a trace of five orders ahead", beside(), []impl.Order{with([]int{1}, 3, 0, 0), with([]int{2}, 4, 0, 0), with([]int{1}, 4, 0, 0), with([]int{1}, 5, 0, 0), with(nil, 6, 0, 0), with([]int{2, 1}, 3, 0, 0)}, perOrder{{4}, {6}, {5}, {6}, {}, {5, 4}},
			[4]perOrder{{{1}, {2}, {1}, {1}, {}, {2, 1}}, {{1}, {2}, {1}, {1}, {}, {2, 1}}, {{1}, {2}, {1}, {1}, {}, {2}}, {{1}, {2}, {1}, {1}, {}, {2}}}, perOrder{{1}, {2}, {1}, {1}, {}, {2}}},
		{"an input turned that nothing fetches", aside(), []impl.Order{with([]int{2}, 1, 2, 0), with([]int{2}, 1, 3, 0)}, perOrder{{1}, {1}}, alike(perOrder{{2}, {}}), perOrder{{2}, {}}},
		{"an input turned that nothing fetches with these values", []string{"-", "-", "(? k0 7 k1)"}, []impl.Order{with([]int{2}, 1, 2, 0), with([]int{2}, 1, 3, 0), with([]int{2}, 0, 3, 0)}, perOrder{{7}, {7}, {3}},
			[4]perOrder{{{2}, {2}, {2}}, {{2}, {}, {2}}, {{2}, {}, {2}}, {{2}, {}, {2}}}, perOrder{{2}, {}, {2}}},
		{"an input turned that only another key fetches", []string{"-", "-", "k0", "k1"}, []impl.Order{with([]int{2, 3}, 1, 2, 0, 0), with([]int{3, 2}, 1, 4, 0, 0)}, perOrder{{1, 2}, {4, 1}}, alike(perOrder{{2, 3}, {3}}), perOrder{{2, 3}, {3}}},
	}
}

// longRow has as many orders as there may be, each with another input.
func longRow() rowCase {
	c := rowCase{name: "as many orders as there may be", texts: []string{"-", "k0", "k1", "k2", "k3", "k4", "k5", "k6", "k7", "k8"}}
	for n := range 6 {
		o := with([]int{9}, make([]int, 10)...)
		o.Inputs[0] = 10 + n
		c.row, c.values, c.must = append(c.row, o), append(c.values, []int{10 + n}), append(c.must, []int{1, 2, 3, 4, 5, 6, 7, 8, 9})
	}
	c.runs = alike(c.must)
	return c
}

func rowCases() []rowCase {
	return append(slices.Concat(shortRows(), turningRows(), seekingRows()), longRow())
}

// checkLists compares lists with those that are to be told.
func checkLists(t *testing.T, name string, got perOrder, ok bool, want perOrder) {
	t.Helper()
	if !ok || !sameLists(got, want) {
		t.Errorf("%s is %v, %v, not %v", name, got, ok, want)
	}
}

func TestConstantOfRows(t *testing.T) {
	if impl.OrdersMost != 6 {
		t.Errorf("OrdersMost is %d", impl.OrdersMost)
	}
}

func TestRowCases(t *testing.T) {
	for _, c := range rowCases() {
		s := sheet(c.texts...)
		if !impl.RowOk(s, c.row) {
			t.Errorf("%s: RowOk is false", c.name)
		}
		values, ok := impl.RowNew(s, c.row)
		checkLists(t, c.name+": RowNew", values, ok, c.values)
		must, ok := impl.RowMust(s, c.row)
		checkLists(t, c.name+": RowMust", must, ok, c.must)
		for _, way := range allWays() {
			name := c.name + ", the way " + strconv.Itoa(way)
			values, ok := impl.RowValues(s, way, c.row)
			checkLists(t, name+": RowValues", values, ok, c.values)
			runs, ok := impl.RowRuns(s, way, c.row)
			checkLists(t, name+": RowRuns", runs, ok, c.runs[way])
			builds := plainRow(s, way, c.row)
			if st, ok := impl.RowState(s, way, c.row); !ok || !sameState(st, builds[len(builds)-1].st) {
				t.Errorf("%s: RowState is %v, %v", name, st, ok)
			}
		}
	}
}

// Rows of builds that are told for one way from the state at first on are rows, too: with the state behind them.
func TestRowsOfStories(t *testing.T) {
	var told [4]int
	for _, c := range stories() {
		var row []impl.Order
		var runs, values perOrder
		for _, x := range c.steps {
			row, runs, values = append(row, with(x.keys, x.inputs...)), append(runs, x.runs), append(values, x.values)
		}
		s := sheet(c.texts...)
		if len(c.from.Values) > 0 || !plainSafe(s) {
			continue
		}
		told[c.way]++
		name := "the way " + strconv.Itoa(c.way) + ", " + c.name
		got, ok := impl.RowRuns(s, c.way, row)
		checkLists(t, name+": RowRuns", got, ok, runs)
		got, ok = impl.RowValues(s, c.way, row)
		checkLists(t, name+": RowValues", got, ok, values)
		if st, ok := impl.RowState(s, c.way, row); !ok || !sameState(st, c.behind) {
			t.Errorf("%s: RowState is %v, %v, not %v", name, st, ok, c.behind)
		}
	}
	if slices.Min(told[:]) < 8 {
		t.Errorf("%v stories by each way were rows", told)
	}
}

// Behind a row of no orders the state is that at first, by each way.
func TestStatesOfNoOrders(t *testing.T) {
	for _, texts := range [][]string{nil, {"-"}, {"7"}, two(), branch(), slices.Repeat([]string{"-"}, 10), slices.Repeat([]string{"96"}, 10)} {
		s := sheet(texts...)
		first, _ := impl.StateStart(s)
		for _, way := range allWays() {
			for _, row := range [][]impl.Order{nil, {}} {
				if st, ok := impl.RowState(s, way, row); !ok || !sameState(st, first) {
					t.Errorf("RowState of no orders of %q by the way %d is %v, %v", texts, way, st, ok)
				}
			}
		}
	}
}

// All traces of the longest row are kept.
func TestTracesOfLongRows(t *testing.T) {
	c := longRow()
	for way, want := range []int{0, 9, 54, 54} {
		st, ok := impl.RowState(sheet(c.texts...), way, c.row)
		if !ok || len(st.Traces) != want {
			t.Errorf("behind a long row by the way %d there are %d traces, %v, not %d", way, len(st.Traces), ok, want)
		}
	}
}

// byNoWay reports what is told of a row by ways if there is to be nothing.
func byNoWay(t *testing.T, name string, s impl.Sheet, row []impl.Order, ways []int) {
	t.Helper()
	for _, way := range ways {
		if values, ok := impl.RowValues(s, way, row); ok || len(values) != 0 {
			t.Errorf("%s, the way %d: RowValues is %v, %v", name, way, values, ok)
		}
		if runs, ok := impl.RowRuns(s, way, row); ok || len(runs) != 0 {
			t.Errorf("%s, the way %d: RowRuns is %v, %v", name, way, runs, ok)
		}
		if st, ok := impl.RowState(s, way, row); ok || !isNoState(st) {
			t.Errorf("%s, the way %d: RowState is %v, %v", name, way, st, ok)
		}
	}
}

// isNoRow reports what is told of a row that does not fit.
func isNoRow(t *testing.T, name string, s impl.Sheet, row []impl.Order) {
	t.Helper()
	if impl.RowOk(s, row) {
		t.Errorf("%s: RowOk is true", name)
	}
	if values, ok := impl.RowNew(s, row); ok || len(values) != 0 {
		t.Errorf("%s: RowNew is %v, %v", name, values, ok)
	}
	if must, ok := impl.RowMust(s, row); ok || len(must) != 0 {
		t.Errorf("%s: RowMust is %v, %v", name, must, ok)
	}
	byNoWay(t, name, s, row, []int{-1, 0, 1, 2, 3, 4})
}

// isRow reports if a row is not told that fits.
func isRow(t *testing.T, name string, s impl.Sheet, row []impl.Order) {
	t.Helper()
	if !impl.RowOk(s, row) {
		t.Errorf("%s: RowOk is false", name)
	}
	if values, ok := impl.RowNew(s, row); !ok || len(values) != len(row) {
		t.Errorf("%s: RowNew is %v, %v", name, values, ok)
	}
	if must, ok := impl.RowMust(s, row); !ok || len(must) != len(row) {
		t.Errorf("%s: RowMust is %v, %v", name, must, ok)
	}
	for _, way := range allWays() {
		if values, ok := impl.RowValues(s, way, row); !ok || len(values) != len(row) {
			t.Errorf("%s, the way %d: RowValues is %v, %v", name, way, values, ok)
		}
		if runs, ok := impl.RowRuns(s, way, row); !ok || len(runs) != len(row) {
			t.Errorf("%s, the way %d: RowRuns is %v, %v", name, way, runs, ok)
		}
		if st, ok := impl.RowState(s, way, row); !ok || !impl.StateOk(s, st) {
			t.Errorf("%s, the way %d: RowState is %v, %v", name, way, st, ok)
		}
	}
}

func TestRowsOfBadSheets(t *testing.T) {
	for i, s := range badSheets() {
		name := "bad sheet " + strconv.Itoa(i)
		isNoRow(t, name+", no orders", s, nil)
		for _, inputs := range [][]int{nil, {0}, make([]int, len(s.Made)), make([]int, len(s.Tasks)), {97}} {
			isNoRow(t, name+", no keys", s, []impl.Order{with(nil, inputs...)})
			isNoRow(t, name, s, []impl.Order{with([]int{0}, inputs...), with([]int{-1}, inputs...)})
		}
	}
}

// A sheet that is not safe has no rows, not even of no orders, or of keys that do not fail.
func TestRowsOfSheetsThatAreNotSafe(t *testing.T) {
	for _, texts := range [][]string{{"k0"}, {"k0", "7"}, {"7", "k1"}, {"k1", "k0"}, {"-", "(@0 0)"}, {"(@9 9)"}, ring(), {"-", "(? 0 k1 7)"}, {"k1", "k2", "k0", "-"}, {"-", "k2", "(+ k0 k1)", "8"}} {
		s, name := sheet(texts...), impl.SheetText(sheet(texts...))
		inputs := make([]int, len(texts))
		isNoRow(t, name+", no orders", s, nil)
		isNoRow(t, name+", no keys", s, []impl.Order{with(nil, inputs...)})
		for key := range texts {
			isNoRow(t, name, s, []impl.Order{with([]int{key}, inputs...)})
		}
		isNoRow(t, name, s, slices.Repeat([]impl.Order{with(allKeys(s), inputs...)}, 6))
	}
}

// safeTexts are sheets that are safe, of few and of many keys.
func safeTexts() [][]string {
	return [][]string{nil, {"-"}, {"7"}, {"-", "k0"}, {"k1", "-"}, two(), branch(), slices.Repeat([]string{"-"}, 10), slices.Repeat([]string{"5"}, 10), longRow().texts}
}

// goodRow returns so many orders of all keys of a sheet, each with other inputs.
func goodRow(s impl.Sheet, orders int) []impl.Order {
	var row []impl.Order
	for n := range orders {
		row = append(row, with(allKeys(s), slices.Repeat([]int{n % 97}, len(s.Made))...))
	}
	return row
}

// amid puts an order into rows of good ones: alone, as the first, as one amid others, as the last, and as the last of as many as there may be.
func amid(s impl.Sheet, o impl.Order) [][]impl.Order {
	return [][]impl.Order{{o}, append([]impl.Order{o}, goodRow(s, 2)...), slices.Insert(goodRow(s, 2), 1, o), append(goodRow(s, 2), o), append(goodRow(s, 5), o), append([]impl.Order{o}, goodRow(s, 5)...)}
}

// Inputs that are none are refused in each order, also if it has no keys; also those of made keys are to be values.
func TestRowsOfBadInputs(t *testing.T) {
	for _, texts := range safeTexts() {
		s, n := sheet(texts...), len(texts)
		list := append(badValues(), make([]int, n+1), make([]int, n+2), make([]int, 11), make([]int, 10000))
		if n > 0 {
			list = append(list, nil, []int{}, make([]int, n-1), slices.Repeat([]int{1}, n-1))
		}
		for key := range n {
			for _, v := range []int{97, 98, -1, -97, math.MaxInt, math.MinInt} {
				inputs := make([]int, n)
				inputs[key] = v
				list = append(list, inputs)
			}
		}
		for i, inputs := range list {
			name := impl.SheetText(s) + ", bad inputs " + strconv.Itoa(i)
			for _, keys := range [][]int{nil, allKeys(s)} {
				for _, row := range amid(s, with(keys, inputs...)) {
					isNoRow(t, name, s, row)
				}
			}
		}
		for _, v := range []int{0, 1, 96} {
			for _, row := range amid(s, with(allKeys(s), slices.Repeat([]int{v}, n)...)) {
				isRow(t, impl.SheetText(s), s, row)
			}
		}
	}
}

// A key that is none of the sheet is refused in each order: alone, ahead of others and behind them.
func TestRowsOfBadKeys(t *testing.T) {
	for _, texts := range safeTexts() {
		s, n := sheet(texts...), len(texts)
		for _, bad := range []int{-1, -2, n, n + 1, 9, 10, 11, math.MaxInt, math.MinInt} {
			if bad >= 0 && bad < n {
				continue
			}
			for _, asked := range [][]int{{bad}, {bad, bad}, append([]int{bad}, allKeys(s)...), append(allKeys(s), bad), slices.Insert(allKeys(s), n/2, bad)} {
				for _, row := range amid(s, with(asked, make([]int, n)...)) {
					isNoRow(t, impl.SheetText(s)+" and the key "+strconv.Itoa(bad), s, row)
				}
			}
		}
		for key := range n {
			for _, row := range amid(s, with([]int{key}, make([]int, n)...)) {
				isRow(t, impl.SheetText(s), s, row)
			}
		}
	}
}

// Rows of up to six orders are ones, those of more are none, whatever the orders are.
func TestLengthsOfRows(t *testing.T) {
	for _, texts := range safeTexts() {
		s, n := sheet(texts...), len(texts)
		for orders := range 7 {
			isRow(t, impl.SheetText(s)+", "+strconv.Itoa(orders)+" orders", s, goodRow(s, orders))
			isRow(t, impl.SheetText(s)+", "+strconv.Itoa(orders)+" orders of no keys", s, slices.Repeat([]impl.Order{with(nil, make([]int, n)...)}, orders))
		}
		for _, orders := range []int{7, 8, 12, 61, 1000} {
			isNoRow(t, impl.SheetText(s)+", "+strconv.Itoa(orders)+" orders", s, goodRow(s, orders))
			isNoRow(t, impl.SheetText(s)+", "+strconv.Itoa(orders)+" orders of no keys", s, slices.Repeat([]impl.Order{with(nil, make([]int, n)...)}, orders))
		}
	}
}

// An order may ask for a key as often as it will.
func TestRowsOfManyKeys(t *testing.T) {
	s, keys := sheet(two()...), slices.Repeat([]int{2, 1, 0}, 1000)
	row := []impl.Order{with(keys, 4, 0, 0), with(keys, 5, 0, 0)}
	want := perOrder{slices.Repeat([]int{25, 5, 4}, 1000), slices.Repeat([]int{36, 6, 5}, 1000)}
	for _, way := range allWays() {
		values, ok := impl.RowValues(s, way, row)
		checkLists(t, "RowValues of many keys", values, ok, want)
	}
	values, ok := impl.RowNew(s, row)
	checkLists(t, "RowNew of many keys", values, ok, want)
}

// By no way nothing is told, not even of no orders; what asks for no way is told all the same.
func TestRowsByNoWay(t *testing.T) {
	for _, texts := range safeTexts() {
		s := sheet(texts...)
		for orders := range 7 {
			byNoWay(t, impl.SheetText(s), s, goodRow(s, orders), noWays())
			isRow(t, impl.SheetText(s), s, goodRow(s, orders))
		}
	}
	for _, c := range rowCases() {
		byNoWay(t, c.name, sheet(c.texts...), c.row, noWays())
	}
}

// plainRow builds the orders of a row one behind the other: that from which it begins, and each build.
func plainRow(s impl.Sheet, way int, row []impl.Order) []*again {
	n := len(s.Made)
	list := []*again{{st: impl.State{Values: make([]int, n), Built: make([]bool, n), Inputs: make([]int, n)}}}
	for i, o := range row {
		a, ok := plainStep(s, way, list[i].st, o.Inputs, o.Keys)
		if !ok || a.drops {
			panic("a build of a row that fits fails, or drops a trace")
		}
		list = append(list, a)
	}
	return list
}

// plainFetched returns the made keys among some, and all that are fetched on some way from these with values, ascending.
func plainFetched(s impl.Sheet, values []int, keys []int) []int {
	var list []int
	for todo := slices.Clone(keys); len(todo) > 0; todo = todo[1:] {
		if key := todo[0]; s.Made[key] && !slices.Contains(list, key) {
			list, todo = append(list, key), append(todo, plainMadeUses(s, key, values)...)
		}
	}
	slices.Sort(list)
	return list
}

// plainMust returns what is to be run in each order: that of which no trace of all orders ahead holds.
func plainMust(s impl.Sheet, row []impl.Order) perOrder {
	var must perOrder
	var traces []impl.Trace
	for _, o := range row {
		values, _, _ := plainAll(s, o.Inputs)
		fetched := plainFetched(s, values, o.Keys)
		must = append(must, slices.DeleteFunc(slices.Clone(fetched), func(key int) bool {
			return slices.ContainsFunc(traces, func(x impl.Trace) bool { return x.Key == key && plainHolds(x, values) })
		}))
		for _, key := range fetched {
			traces = append(traces, plainTrace(key, s.Tasks[key], values))
		}
	}
	return must
}

// plainNew returns the values of the keys of each order when they are built from nothing.
func plainNew(s impl.Sheet, row []impl.Order) perOrder {
	var list perOrder
	for _, o := range row {
		var values []int
		for _, key := range o.Keys {
			value, _ := plainBuild(s, o.Inputs, key, nil)
			values = append(values, value)
		}
		list = append(list, values)
	}
	return list
}

// plainRowOk reports whether a row fits a sheet, which is one.
func plainRowOk(s impl.Sheet, row []impl.Order) bool {
	if !plainSafe(s) || len(row) > 6 {
		return false
	}
	for _, o := range row {
		if len(o.Inputs) != len(s.Made) {
			return false
		}
		for _, v := range o.Inputs {
			if v < 0 || v > 96 {
				return false
			}
		}
		for _, key := range o.Keys {
			if key < 0 || key >= len(s.Made) {
				return false
			}
		}
	}
	return true
}

// randomRow makes a row whose inputs turn, and come back, and whose keys are asked for again and again.
func randomRow(r *rand.Rand, s impl.Sheet) []impl.Order {
	pool := [][]int{randomInputs(r, s)}
	for i := range 2 {
		pool = append(pool, turnInputs(r, s, turnInputs(r, s, pool[i])))
	}
	asked := [][]int{randomKeys(r, s), randomKeys(r, s), allKeys(s)}
	var row []impl.Order
	for range r.Intn(7) {
		row = append(row, with(slices.Clone(asked[r.Intn(3)]), slices.Clone(pool[r.Intn(3)])...))
	}
	return row
}

// eachRow calls f with the rows that are told, and with so many others, of sheets that are safe. It ends with the first one that is wrong, for there are many.
func eachRow(t *testing.T, rows int, f func(r *rand.Rand, s impl.Sheet, row []impl.Order)) {
	r := rand.New(rand.NewSource(12))
	for _, c := range rowCases() {
		f(r, sheet(c.texts...), c.row)
	}
	for done := 0; done < rows && !t.Failed(); {
		s := randomSheet(r)
		if r.Intn(3) > 0 {
			s = busySheet(r)
		}
		if plainSafe(s) {
			f(r, s, randomRow(r, s))
			done++
		}
	}
}

// copyRow returns a row that shares no memory with another one.
func copyRow(row []impl.Order) []impl.Order {
	var list []impl.Order
	for _, o := range row {
		list = append(list, with(slices.Clone(o.Keys), slices.Clone(o.Inputs)...))
	}
	return list
}

// sameRow compares two rows; lists that are nil and empty ones are the same.
func sameRow(a, b []impl.Order) bool {
	return slices.EqualFunc(a, b, func(x, y impl.Order) bool {
		return slices.Equal(x.Inputs, y.Inputs) && slices.Equal(x.Keys, y.Keys)
	})
}

// spoilRow returns a row that differs from another one at one place, and may fit, or not.
func spoilRow(r *rand.Rand, row []impl.Order) []impl.Order {
	row = copyRow(row)
	if len(row) == 0 {
		return []impl.Order{with([]int{r.Intn(3) - 1})}
	}
	o := &row[r.Intn(len(row))]
	switch r.Intn(7) {
	case 0:
		o.Inputs = append(o.Inputs, 0)
	case 1:
		o.Inputs = o.Inputs[:max(len(o.Inputs)-1, 0)]
	case 2:
		if len(o.Inputs) > 0 {
			o.Inputs[r.Intn(len(o.Inputs))] = []int{-1, 0, 96, 97}[r.Intn(4)]
		}
	case 3:
		o.Keys = slices.Insert(o.Keys, r.Intn(len(o.Keys)+1), []int{-1, 0, len(o.Inputs) - 1, len(o.Inputs)}[r.Intn(4)])
	case 4:
		row = append(row, copyRow(row)...)
	case 5:
		row = row[1:]
	case 6:
		o.Keys = nil
	}
	return row
}

// Promise 35: if RowOk holds, it holds without the last order.
func TestPromise35(t *testing.T) {
	fit, not := 0, 0
	check := func(s impl.Sheet, row []impl.Order) {
		got := impl.RowOk(s, row)
		if got != plainRowOk(s, row) {
			t.Errorf("RowOk of %v in %q is %v", row, impl.SheetText(s), got)
		}
		if !got {
			not++
			return
		}
		fit++
		for orders := len(row) - 1; orders >= 0; orders-- {
			if !impl.RowOk(s, row[:orders]) {
				t.Errorf("RowOk of %v in %q holds, but not without the last %d", row, impl.SheetText(s), len(row)-orders)
			}
		}
	}
	eachRow(t, 3000, func(r *rand.Rand, s impl.Sheet, row []impl.Order) {
		check(s, row)
		for range 4 {
			check(s, spoilRow(r, row))
		}
	})
	r := rand.New(rand.NewSource(13))
	eachSheet(func(s impl.Sheet, inputs []int) { check(s, randomRow(r, s)) })
	if fit < 5000 || not < 5000 {
		t.Errorf("%d rows did fit, %d did not", fit, not)
	}
}

// Promise 36: RowValues are RowNew, whatever the way is.
func TestPromise36(t *testing.T) {
	back, idle := 0, 0
	eachRow(t, 2500, func(r *rand.Rand, s impl.Sheet, row []impl.Order) {
		want, ok := impl.RowNew(s, row)
		checkLists(t, "RowNew of "+impl.SheetText(s), want, ok, plainNew(s, row))
		for i, o := range row {
			for j, key := range o.Keys {
				if value, ok := impl.BuildKey(s, o.Inputs, key); !ok || value != want[i][j] {
					t.Errorf("RowNew of %v in %q is %v: the key %d has %d", row, impl.SheetText(s), want, key, value)
				}
			}
			if i > 1 && slices.Equal(o.Inputs, row[i-2].Inputs) && !slices.Equal(o.Inputs, row[i-1].Inputs) {
				back++
			}
		}
		for _, way := range allWays() {
			values, ok := impl.RowValues(s, way, row)
			if !ok || !sameLists(values, want) {
				t.Errorf("RowValues of %v in %q by the way %d is %v, %v, not %v", row, impl.SheetText(s), way, values, ok, want)
			}
			for i, a := range plainRow(s, way, row)[1:] {
				if len(a.runs) < len(plainReach(s, row[i].Keys)) {
					idle++
				}
			}
		}
	})
	if back < 500 || idle < 5000 {
		t.Errorf("%d times inputs came back, %d builds did not run all", back, idle)
	}
}

// among reports whether all of some keys are among others.
func among(keys, others []int) bool {
	return !slices.ContainsFunc(keys, func(key int) bool { return !slices.Contains(others, key) })
}

// Promise 37: RowRuns by WayStore are not more than by WayVerify, and these not more than by WayDirty; and each that is to be run (RowMust) is run by WayVerify and WayStore.
func TestPromise37(t *testing.T) {
	fewer, least, must := 0, 0, 0
	eachRow(t, 5000, func(r *rand.Rand, s impl.Sheet, row []impl.Order) {
		var runs [4]perOrder
		for _, way := range allWays() {
			got, ok := impl.RowRuns(s, way, row)
			var want perOrder
			for _, a := range plainRow(s, way, row)[1:] {
				want = append(want, a.runs)
			}
			checkLists(t, "RowRuns of "+impl.SheetText(s)+" by the way "+strconv.Itoa(way), got, ok, want)
			runs[way] = got
		}
		list, ok := impl.RowMust(s, row)
		checkLists(t, "RowMust of "+impl.SheetText(s), list, ok, plainMust(s, row))
		for i, keys := range list {
			dirty, verify, store := runs[impl.WayDirty][i], runs[impl.WayVerify][i], runs[impl.WayStore][i]
			if len(store) > len(verify) || len(verify) > len(dirty) || !among(store, verify) || !among(verify, dirty) {
				t.Errorf("in the order %d of %v in %q %v are run by WayStore, %v by WayVerify, %v by WayDirty", i, row, impl.SheetText(s), store, verify, dirty)
			}
			if !among(keys, verify) || !among(keys, store) {
				t.Errorf("in the order %d of %v in %q %v are to be run, but %v are by WayVerify, %v by WayStore", i, row, impl.SheetText(s), keys, verify, store)
			}
			must += len(keys)
			if len(store) < len(verify) {
				least++
			}
			if len(verify) < len(dirty) {
				fewer++
			}
		}
	})
	if fewer < 200 || least < 500 || must < 5000 {
		t.Errorf("%d times WayVerify ran less than WayDirty, %d times WayStore less than that; %d keys were to be run", fewer, least, must)
	}
}

// Promise 38: StateFits holds of RowState.
func TestPromise38(t *testing.T) {
	var built, unlike [4]int
	eachRow(t, 2500, func(r *rand.Rand, s impl.Sheet, row []impl.Order) {
		for _, way := range allWays() {
			st, ok := impl.RowState(s, way, row)
			if !ok || !impl.StateFits(s, way, st) || !impl.StateOk(s, st) {
				t.Errorf("StateFits of RowState of %v in %q by the way %d, %v, %v, is false", row, impl.SheetText(s), way, st, ok)
			}
			builds := plainRow(s, way, row)
			if want := builds[len(row)].st; !sameState(st, want) {
				t.Errorf("RowState of %v in %q by the way %d is %v, not %v", row, impl.SheetText(s), way, st, want)
			}
			if slices.Contains(st.Built, true) {
				built[way]++
			}
			if n := len(row); n > 1 && !sameState(st, builds[n-1].st) {
				unlike[way]++
			}
		}
	})
	if slices.Min(built[:]) < 1000 || slices.Min(unlike[:]) < 500 {
		t.Errorf("by each way %v states had keys that were built, and %v were not those ahead of the last order", built, unlike)
	}
}

// Promise 39: RowNew of the last order alone is the last one of RowNew.
func TestPromise39(t *testing.T) {
	long, unlike := 0, 0
	eachRow(t, 4000, func(r *rand.Rand, s impl.Sheet, row []impl.Order) {
		all, ok := impl.RowNew(s, row)
		if !ok || len(all) != len(row) {
			t.Errorf("RowNew of %v in %q is %v, %v", row, impl.SheetText(s), all, ok)
			return
		}
		for i := range row {
			alone, ok := impl.RowNew(s, row[i:i+1])
			checkLists(t, "RowNew of an order of "+impl.SheetText(s)+" alone", alone, ok, all[i:i+1])
			upTo, ok := impl.RowNew(s, row[:i+1])
			checkLists(t, "RowNew of the first orders of "+impl.SheetText(s), upTo, ok, all[:i+1])
			if len(all[i]) > 0 && !slices.Equal(all[i], all[0]) {
				unlike++
			}
		}
		if len(row) > 1 {
			long++
		}
	})
	if long < 2000 || unlike < 3000 {
		t.Errorf("%d rows were longer than one order, %d orders had other values than the first", long, unlike)
	}
}

// Promise 40: RowRuns by WayStore have just the keys of RowMust, in each order.
func TestPromise40(t *testing.T) {
	all, some, none := 0, 0, 0
	eachRow(t, 4000, func(r *rand.Rand, s impl.Sheet, row []impl.Order) {
		runs, ok := impl.RowRuns(s, impl.WayStore, row)
		must, told := impl.RowMust(s, row)
		if !ok || !told || len(must) != len(row) || len(runs) != len(row) {
			t.Errorf("RowRuns of %v in %q are %v, %v, RowMust is %v, %v", row, impl.SheetText(s), runs, ok, must, told)
			return
		}
		for i, keys := range must {
			for j, key := range keys {
				if !s.Made[key] || j > 0 && keys[j-1] >= key {
					t.Errorf("RowMust of %v in %q is %v", row, impl.SheetText(s), must)
				}
			}
			slices.Sort(runs[i])
			if !slices.Equal(runs[i], keys) {
				t.Errorf("in the order %d of %v in %q %v are run, %v are to be", i, row, impl.SheetText(s), runs[i], keys)
			}
			values, _, _ := plainAll(s, row[i].Inputs)
			switch fetched := plainFetched(s, values, row[i].Keys); {
			case len(fetched) == 0:
			case len(keys) == 0:
				none++
			case len(keys) < len(fetched):
				some++
			default:
				all++
			}
		}
	})
	if all < 1000 || some < 500 || none < 1000 {
		t.Errorf("in %d orders all that was fetched was to be run, in %d some of it, in %d nothing", all, some, none)
	}
}

// Arguments are not changed, not even behind the ends of their lists.
func TestRowsChangeNothing(t *testing.T) {
	eachRow(t, 500, func(r *rand.Rand, s impl.Sheet, row []impl.Order) {
		before, kept := copySheet(s), copyRow(row)
		space := append(copyRow(row), with([]int{11}, 12))
		for i, o := range row {
			space[i] = impl.Order{Inputs: append(slices.Clone(o.Inputs), 13)[:len(o.Inputs)], Keys: append(slices.Clone(o.Keys), 14)[:len(o.Keys)]}
		}
		short := space[:len(row)]
		impl.RowOk(s, short)
		impl.RowNew(s, short)
		impl.RowMust(s, short)
		for way := -1; way <= 4; way++ {
			impl.RowValues(s, way, short)
			impl.RowRuns(s, way, short)
			impl.RowState(s, way, short)
		}
		if !sameSheet(s, before) || !sameRow(short, kept) || !sameRow(space[len(row):], []impl.Order{with([]int{11}, 12)}) {
			t.Errorf("%v in %q was changed", kept, impl.SheetText(before))
		}
		for _, o := range short {
			if o.Inputs[:len(o.Inputs)+1][len(o.Inputs)] != 13 || o.Keys[:len(o.Keys)+1][len(o.Keys)] != 14 {
				t.Errorf("what stands behind %v in %q was changed", kept, impl.SheetText(before))
			}
		}
	})
}

// overwriteLists writes over all memory of lists.
func overwriteLists(all perOrder) {
	for _, list := range all {
		overwrite(list)
	}
	all = all[:cap(all)]
	for i := range all {
		all[i] = []int{-1}
	}
}

// Results share no memory with arguments or each other, not even behind their ends.
func TestRowsShareNothing(t *testing.T) {
	eachRow(t, 300, func(r *rand.Rand, s impl.Sheet, row []impl.Order) {
		before, kept := copySheet(s), copyRow(row)
		tells := []func() (perOrder, bool){
			func() (perOrder, bool) { return impl.RowNew(s, row) },
			func() (perOrder, bool) { return impl.RowMust(s, row) },
		}
		for _, way := range allWays() {
			tells = append(tells, func() (perOrder, bool) { return impl.RowValues(s, way, row) }, func() (perOrder, bool) { return impl.RowRuns(s, way, row) })
		}
		for i, tell := range tells {
			got, _ := tell()
			want := copyLists(got)
			other, _ := tell()
			overwriteLists(other)
			for j := range got {
				overwrite(got[j])
				want[j] = got[j]
				if !sameLists(got, want) {
					t.Errorf("lists of the result %d of %v in %q share memory", i, kept, impl.SheetText(before))
				}
			}
		}
		for _, way := range allWays() {
			st, _ := impl.RowState(s, way, row)
			want := copyState(st)
			other, _ := impl.RowState(s, way, row)
			overwriteState(other)
			if !sameState(st, want) {
				t.Errorf("results of RowState of %v in %q share memory", kept, impl.SheetText(before))
			}
			for i, part := range []impl.State{{Values: st.Values}, {Inputs: st.Inputs}, {Built: st.Built}} {
				overwriteState(part)
				rest := []impl.State{{Inputs: st.Inputs, Built: st.Built, Traces: st.Traces}, {Built: st.Built, Traces: st.Traces}, {Traces: st.Traces}}[i]
				left := []impl.State{{Inputs: want.Inputs, Built: want.Built, Traces: want.Traces}, {Built: want.Built, Traces: want.Traces}, {Traces: want.Traces}}[i]
				if !sameState(rest, left) {
					t.Errorf("lists of RowState of %v in %q share memory", kept, impl.SheetText(before))
				}
			}
			for i := range st.Traces {
				overwriteTraces(st.Traces[i : i+1 : i+1])
				if want.Traces[i] = st.Traces[i]; !sameTraces(st.Traces, want.Traces) {
					t.Errorf("the trace %d of RowState of %v in %q shares memory", i, kept, impl.SheetText(before))
				}
			}
		}
		if !sameSheet(s, before) || !sameRow(row, kept) {
			t.Errorf("results of %v in %q share memory with them", kept, impl.SheetText(before))
		}
	})
}
