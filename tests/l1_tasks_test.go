package tests

import (
	"math"
	"slices"
	"strconv"
	"strings"
	"testing"

	"loop.example/buildroads/impl"
)

// goodTasks are tasks with their texts and nodes, and whether they are fixed.
func goodTasks() []struct {
	task  impl.Task
	text  string
	nodes int
	fixed bool
} {
	return []struct {
		task  impl.Task
		text  string
		nodes int
		fixed bool
	}{
		{impl.Task{}, "0", 1, true},
		{num(7), "7", 1, true},
		{num(10), "10", 1, true},
		{num(95), "95", 1, true},
		{num(96), "96", 1, true},
		{impl.Task{Kind: impl.TaskNum, N: 96, Parts: []impl.Task{}}, "96", 1, true},
		{get(0), "k0", 1, true},
		{get(9), "k9", 1, true},
		{impl.Task{Kind: impl.TaskGet, N: 3, Parts: []impl.Task{}}, "k3", 1, true},
		{add(num(0), num(96)), "(+ 0 96)", 3, true},
		{add(get(9), num(96)), "(+ k9 96)", 3, true},
		{mul(num(96), get(0)), "(* 96 k0)", 3, true},
		{mul(add(num(1), get(2)), mul(get(3), num(4))), "(* (+ 1 k2) (* k3 4))", 7, true},
		{choose(num(96), num(1), num(2)), "(? 96 1 2)", 4, false},
		{choose(get(1), add(get(2), num(3)), at(4, get(0))), "(? k1 (+ k2 3) (@4 k0))", 7, false},
		{at(0, num(0)), "(@0 0)", 2, false},
		{at(9, num(96)), "(@9 96)", 2, false},
		{at(9, at(8, get(7))), "(@9 (@8 k7))", 3, false},
		{add(num(1), at(2, num(3))), "(+ 1 (@2 3))", 4, false},
		{add(at(2, num(3)), num(1)), "(+ (@2 3) 1)", 4, false},
		{mul(num(1), mul(num(2), choose(num(3), num(4), num(5)))), "(* 1 (* 2 (? 3 4 5)))", 8, false},
		{sumLeft(8, num(96)), strings.Repeat("(+ ", 7) + "96" + strings.Repeat(" 96)", 7), 15, true},
		{sumRight(8, get(9)), strings.Repeat("(+ k9 ", 7) + "k9" + strings.Repeat(")", 7), 15, true},
		{nest(14, num(96)), strings.Repeat("(@0 ", 14) + "96" + strings.Repeat(")", 14), 15, false},
	}
}

// badTasks are values of type Task that are no tasks.
func badTasks() []impl.Task {
	kind := func(kind, n int, parts ...impl.Task) impl.Task {
		return impl.Task{Kind: kind, N: n, Parts: parts}
	}
	one := num(1)
	list := []impl.Task{
		kind(-1, 0), kind(6, 0), kind(6, 0, one), kind(7, 0, one, one), kind(math.MaxInt, 0), kind(math.MinInt, 0),
		num(97), num(98), num(-1), num(math.MaxInt), num(math.MinInt),
		get(10), get(96), get(-1), get(math.MaxInt), get(math.MinInt),
		kind(impl.TaskNum, 1, one), kind(impl.TaskGet, 1, one), kind(impl.TaskNum, 1, make([]impl.Task, 1000)...),
		kind(impl.TaskAdd, 0), kind(impl.TaskAdd, 0, one), kind(impl.TaskAdd, 0, one, one, one),
		kind(impl.TaskAdd, 1, one, one), kind(impl.TaskAdd, -1, one, one), kind(impl.TaskAdd, 96, one, one),
		kind(impl.TaskMul, 0), kind(impl.TaskMul, 0, one), kind(impl.TaskMul, 0, one, one, one),
		kind(impl.TaskMul, 1, one, one), kind(impl.TaskMul, -1, one, one),
		kind(impl.TaskIf, 0), kind(impl.TaskIf, 0, one, one), kind(impl.TaskIf, 0, one, one, one, one),
		kind(impl.TaskIf, 1, one, one, one), kind(impl.TaskIf, -1, one, one, one),
		kind(impl.TaskAt, 0), kind(impl.TaskAt, 0, one, one), at(10, one), at(-1, one), at(96, one),
		add(num(97), one), add(one, num(97)), mul(one, num(-1)), add(one, get(10)), at(0, get(10)), at(0, num(97)),
		choose(num(97), one, one), choose(one, num(97), one), choose(one, one, num(97)),
		at(9, kind(impl.TaskAdd, 0, one)), add(one, mul(one, choose(one, one, kind(6, 0)))),
		nest(15, one), add(nest(6, one), nest(7, one)), add(nest(13, one), one), nest(1, sumLeft(8, one)),
		choose(sumLeft(3, one), sumLeft(4, one), nest(2, one)), sumLeft(9, one), sumRight(9, one), choose(sumLeft(4, one), sumLeft(4, one), one),
		nest(100000, one), sumLeft(100000, one), sumRight(100000, one),
	}
	return append(list, endlessTasks()...)
}

// endlessTasks have parts that contain themselves.
func endlessTasks() []impl.Task {
	list := []impl.Task{add(num(0), num(0)), mul(num(0), num(0)), choose(num(0), num(0), num(0)), at(0, num(0))}
	for _, t := range list {
		for i := range t.Parts {
			t.Parts[i] = t
		}
	}
	return list
}

// badTexts are texts of no task.
func badTexts() []string {
	list := []string{
		"", " ", "\n", "\x00", "97", "98", "100", "960", "097", "096", "00", "01", "-1", "-0", "+1", "9a", "0x1", "1_0", "1e1", "1.0",
		"18446744073709551616", "18446744073709551617", "4294967297", "9223372036854775808", " 1", "1 ", "1\n", "1\x00", "1 2", "1)", "(1)", "\u0661", "\xff",
		"k", "k ", "K1", "k10", "k01", "k00", "k-1", "kk1", "k1 ", " k1", "k 1", "k1k2", "k18446744073709551617", "k\u0661", "k:", "k/",
		"(", ")", "()", "(+", "(+)", "(+ ", "(+ 1", "(+ 1)", "(+ 1 )", "(+ 1 2", "(+ 1 2 ", "(+ 1 2 3)", "(+ 1 2))", "((+ 1 2)", "((+ 1 2))",
		"(+1 2)", "(+  1 2)", "(+ 1  2)", "(+ 1 2 )", "( + 1 2)", "(+ 1,2)", "(+\t1 2)", "(+ 1\t2)", "(+ 12)", "+ 1 2", "[+ 1 2]", "(+ 1 2]",
		"(+ 1 97)", "(+ 97 1)", "(+ 1 k10)", "(+ 1 02)", "(+0 1 2)", "(+ 1 2)x", "x(+ 1 2)", "(- 1 2)", "(/ 1 2)", "(1 1 2)", "(k1)", "(k 1)",
		"(*)", "(* 1)", "(* 1 2 3)", "(*1 2)", "(* 1 2", "(** 1 2)", "(?)", "(? 1)", "(? 1 2)", "(? 1 2 3", "(? 1 2 3 4)", "(?1 2 3)", "(?0 1 2 3)",
		"(@)", "(@", "(@1", "(@1)", "(@1 )", "(@1 2", "(@1 2 3)", "(@ 1 2)", "(@ 1)", "(@10 1)", "(@01 1)", "(@00 1)", "(@-1 1)", "(@k1 2)", "(@1k2)", "(@1  2)", "(@97 1)", "(@1 97)",
		strings.Repeat("(@0 ", 15) + "1" + strings.Repeat(")", 15),
		strings.Repeat("(+ ", 8) + "1" + strings.Repeat(" 1)", 8),
		strings.Repeat("(+ 1 ", 8) + "1" + strings.Repeat(")", 8),
		strings.Repeat("(* k9 ", 8) + "k9" + strings.Repeat(")", 8),
		"(? (+ (+ (+ 1 1) 1) 1) (+ (+ (+ 1 1) 1) 1) 1)",
		strings.Repeat("(@0 ", 1000000), strings.Repeat("(+ ", 1000000), strings.Repeat("9", 1000000), strings.Repeat("0", 1000000), strings.Repeat("(", 1000000),
	}
	return list
}

// plainText writes a task as the table of the chapter tells, and counts its nodes.
func plainText(t impl.Task) (string, int) {
	head, nodes := map[int]string{2: "(+", 3: "(*", 4: "(?", 5: "(@" + strconv.Itoa(t.N)}[t.Kind], 1
	switch t.Kind {
	case 0:
		return strconv.Itoa(t.N), 1
	case 1:
		return "k" + strconv.Itoa(t.N), 1
	}
	for _, part := range t.Parts {
		text, n := plainText(part)
		head, nodes = head+" "+text, nodes+n
	}
	return head + ")", nodes
}

func TestConstantsOfTasks(t *testing.T) {
	got := []int{impl.KeysMost, impl.NodesMost, impl.ValueTop, impl.TaskNum, impl.TaskGet, impl.TaskAdd, impl.TaskMul, impl.TaskIf, impl.TaskAt}
	if !slices.Equal(got, []int{10, 15, 96, 0, 1, 2, 3, 4, 5}) {
		t.Errorf("constants are %v", got)
	}
}

func TestGoodTasks(t *testing.T) {
	for _, c := range goodTasks() {
		if !impl.TaskOk(c.task) {
			t.Errorf("TaskOk of %q is false", c.text)
		}
		if n := impl.TaskNodes(c.task); n != c.nodes {
			t.Errorf("TaskNodes of %q is %d, not %d", c.text, n, c.nodes)
		}
		if s := impl.TaskText(c.task); s != c.text {
			t.Errorf("TaskText is %q, not %q", s, c.text)
		}
		if got, ok := impl.TaskRead(c.text); !ok || !sameTask(got, c.task) {
			t.Errorf("TaskRead of %q is %v, %v", c.text, got, ok)
		}
		if fixed := impl.TaskFixed(c.task); fixed != c.fixed {
			t.Errorf("TaskFixed of %q is %v", c.text, fixed)
		}
	}
}

func TestBadTasks(t *testing.T) {
	for i, c := range badTasks() {
		if impl.TaskOk(c) {
			t.Errorf("TaskOk of bad task %d is true", i)
		}
		if n := impl.TaskNodes(c); n != -1 {
			t.Errorf("TaskNodes of bad task %d is %d", i, n)
		}
		if s := impl.TaskText(c); s != "" {
			t.Errorf("TaskText of bad task %d is %q", i, s)
		}
		if impl.TaskFixed(c) {
			t.Errorf("TaskFixed of bad task %d is true", i)
		}
	}
}

func TestBadTexts(t *testing.T) {
	for _, s := range badTexts() {
		if got, ok := impl.TaskRead(s); ok || !sameTask(got, impl.Task{}) {
			t.Errorf("TaskRead of %.60q is %v, %v", s, got, ok)
		}
	}
}

// Promise 1: TaskOk holds just if TaskText is not empty.
func TestPromise1(t *testing.T) {
	for _, c := range append(manyTasks(40), badTasks()...) {
		if ok, s := impl.TaskOk(c), impl.TaskText(c); ok != (s != "") {
			t.Errorf("TaskOk is %v, TaskText %q", ok, s)
		}
	}
	for n := -200; n <= 200; n++ {
		if ok, s := impl.TaskOk(num(n)), impl.TaskText(num(n)); ok != (n >= 0 && n <= 96) || ok != (s != "") {
			t.Errorf("of the number %d TaskOk is %v, TaskText %q", n, ok, s)
		}
		if ok, s := impl.TaskOk(get(n)), impl.TaskText(get(n)); ok != (n >= 0 && n <= 9) || ok != (s != "") {
			t.Errorf("of the key %d TaskOk is %v, TaskText %q", n, ok, s)
		}
		c := at(n, num(96))
		if ok, s := impl.TaskOk(c), impl.TaskText(c); ok != (n >= 0 && n <= 9) || ok != (s != "") {
			t.Errorf("of TaskAt %d TaskOk is %v, TaskText %q", n, ok, s)
		}
	}
}

// Promise 2: TaskNodes is 1 and that of all parts, added.
func TestPromise2(t *testing.T) {
	for _, c := range manyTasks(40) {
		text, nodes := plainText(c)
		want := 1
		for _, part := range c.Parts {
			want += impl.TaskNodes(part)
		}
		if got := impl.TaskNodes(c); got != want || got != nodes {
			t.Errorf("TaskNodes of %s is %d, not %d", text, got, nodes)
		}
	}
	for n := 1; n <= 30; n++ {
		want := n
		if n > 15 {
			want = -1
		}
		if got := impl.TaskNodes(nest(n-1, get(9))); got != want {
			t.Errorf("TaskNodes of %d nodes is %d", n, got)
		}
	}
}

// Promise 3: TaskRead of TaskText of a task is the task.
func TestPromise3(t *testing.T) {
	list := manyTasks(40)
	for n := range 97 {
		list = append(list, num(n), add(get(n%10), num(n)), at(n%10, num(n)))
	}
	for _, c := range list {
		text := impl.TaskText(c)
		if want, _ := plainText(c); text != want {
			t.Errorf("TaskText is %q, not %q", text, want)
		}
		if got, ok := impl.TaskRead(text); !ok || !sameTask(got, c) {
			t.Errorf("TaskRead of %q is %v, %v", text, got, ok)
		}
	}
}

// Promise 4: if TaskRead is told, TaskText is the text. Texts are changed at one place each, so that most of them are nearly right.
func TestPromise4(t *testing.T) {
	const bytes = "0192k()+*?@ -a\x00\xff"
	told := 0
	try := func(s string) {
		got, ok := impl.TaskRead(s)
		if !ok {
			if !sameTask(got, impl.Task{}) {
				t.Errorf("TaskRead of %q is %v and false", s, got)
			}
			return
		}
		told++
		if text := impl.TaskText(got); text != s {
			t.Errorf("TaskRead is told of %q, whose task has the text %q", s, text)
		}
	}
	for _, c := range manyTasks(6) {
		s, _ := plainText(c)
		try(s)
		for i := range len(s) + 1 {
			try(s[:i])
			for _, b := range []byte(bytes) {
				try(s[:i] + string([]byte{b}) + s[i:])
				if i < len(s) {
					try(s[:i] + string([]byte{b}) + s[i+1:])
				}
			}
			if i < len(s) {
				try(s[:i] + s[i+1:])
				try(s[:i] + s[i:i+1] + s[i:])
			}
		}
	}
	if told < 90 {
		t.Errorf("TaskRead is told of %d texts only", told)
	}
}

// Short texts: just those of numbers and keys are read.
func TestAllShortTexts(t *testing.T) {
	want := map[string]bool{}
	for n := range 97 {
		want[strconv.Itoa(n)] = true
	}
	for k := range 10 {
		want["k"+strconv.Itoa(k)] = true
	}
	for a := range 256 {
		one := string([]byte{byte(a)})
		if _, ok := impl.TaskRead(one); ok != want[one] {
			t.Errorf("TaskRead of %q is %v", one, ok)
		}
		for b := range 256 {
			two := one + string([]byte{byte(b)})
			if _, ok := impl.TaskRead(two); ok != want[two] {
				t.Errorf("TaskRead of %q is %v", two, ok)
			}
		}
	}
	for n := range 2000 {
		s := strconv.Itoa(n)
		if _, ok := impl.TaskRead(s); ok != want[s] {
			t.Errorf("TaskRead of %q is %v", s, ok)
		}
	}
}

// Promise 5: if TaskFixed holds, a task uses the same keys with no values and with those of 5 for each key.
func TestPromise5(t *testing.T) {
	fives := slices.Repeat([]int{5}, impl.KeysMost)
	fixed := 0
	list := append(manyTasks(40), choose(get(0), get(1), get(2)), at(0, get(0)), add(num(1), at(1, get(2))), mul(choose(get(9), num(96), get(8)), get(1)))
	for _, c := range list {
		text, _ := plainText(c)
		if got, want := impl.TaskFixed(c), !strings.ContainsAny(text, "?@"); got != want {
			t.Errorf("TaskFixed of %s is %v", text, got)
		}
		if !impl.TaskFixed(c) {
			continue
		}
		fixed++
		a, okA := impl.TaskUses(c, nil)
		b, okB := impl.TaskUses(c, fives)
		if !okA || !okB || !slices.Equal(a, b) {
			t.Errorf("%s is fixed, but TaskUses are %v, %v and %v, %v", text, a, okA, b, okB)
		}
		_, none := plainFetches(c, nil)
		if want := firstKeys(none); !slices.Equal(a, want) {
			t.Errorf("TaskUses of %s are %v, not %v", text, a, want)
		}
	}
	if fixed < 40 {
		t.Errorf("%d tasks are fixed only", fixed)
	}
}

func TestTasksAreNotChanged(t *testing.T) {
	for _, c := range manyTasks(5) {
		before := copyTask(c)
		impl.TaskOk(c)
		impl.TaskNodes(c)
		impl.TaskText(c)
		impl.TaskFixed(c)
		if !sameTask(before, c) {
			t.Errorf("%v was changed to %v", before, c)
		}
	}
}

// Two results, and two parts of one, share no memory, not even behind their ends.
func TestReadTasksShareNothing(t *testing.T) {
	const text = "(+ (* k1 2) (? 3 k4 (@5 6)))"
	a, _ := impl.TaskRead(text)
	b, _ := impl.TaskRead(text)
	spoil(a)
	if s := impl.TaskText(b); s != text {
		t.Errorf("a change of one result makes another one %q", s)
	}
	c, _ := impl.TaskRead(text)
	c.Parts = append(c.Parts[:1], num(9))
	c.Parts[0].Parts = append(c.Parts[0].Parts, num(96))[:2]
	if s := impl.TaskText(c); s != "(+ (* k1 2) 9)" {
		t.Errorf("a change of one part makes all %q", s)
	}
}

// spoil writes over all memory of the parts of a task.
func spoil(t impl.Task) {
	parts := t.Parts[:cap(t.Parts)]
	for i := range parts {
		spoil(parts[i])
		parts[i] = num(-1)
	}
}
