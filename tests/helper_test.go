package tests

import (
	"math/rand"
	"slices"
	"strconv"
	"strings"

	"loop.example/buildroads/impl"
)

func num(n int) impl.Task { return impl.Task{Kind: impl.TaskNum, N: n} }

func get(key int) impl.Task { return impl.Task{Kind: impl.TaskGet, N: key} }

func add(a, b impl.Task) impl.Task {
	return impl.Task{Kind: impl.TaskAdd, Parts: []impl.Task{a, b}}
}

func mul(a, b impl.Task) impl.Task {
	return impl.Task{Kind: impl.TaskMul, Parts: []impl.Task{a, b}}
}

func choose(a, b, c impl.Task) impl.Task {
	return impl.Task{Kind: impl.TaskIf, Parts: []impl.Task{a, b, c}}
}

func at(n int, part impl.Task) impl.Task {
	return impl.Task{Kind: impl.TaskAt, N: n, Parts: []impl.Task{part}}
}

// nest puts a task into so many TaskAt.
func nest(depth int, t impl.Task) impl.Task {
	for range depth {
		t = at(0, t)
	}
	return t
}

// sumLeft and sumRight add up so many tasks, deep on one side.
func sumLeft(leaves int, leaf impl.Task) impl.Task {
	t := leaf
	for range leaves - 1 {
		t = add(t, leaf)
	}
	return t
}

func sumRight(leaves int, leaf impl.Task) impl.Task {
	t := leaf
	for range leaves - 1 {
		t = add(leaf, t)
	}
	return t
}

// sameTask compares two tasks; parts that are nil and empty ones are the same.
func sameTask(a, b impl.Task) bool {
	if a.Kind != b.Kind || a.N != b.N || len(a.Parts) != len(b.Parts) {
		return false
	}
	for i := range a.Parts {
		if !sameTask(a.Parts[i], b.Parts[i]) {
			return false
		}
	}
	return true
}

// copyTask returns a task that shares no memory with t.
func copyTask(t impl.Task) impl.Task {
	c := impl.Task{Kind: t.Kind, N: t.N}
	for _, part := range t.Parts {
		c.Parts = append(c.Parts, copyTask(part))
	}
	return c
}

// randomTask makes a task of exactly so many nodes.
func randomTask(r *rand.Rand, nodes int) impl.Task {
	switch {
	case nodes == 1 && r.Intn(2) == 0:
		return num(r.Intn(impl.ValueTop + 1))
	case nodes == 1:
		return get(r.Intn(impl.KeysMost))
	case nodes == 2 || nodes > 3 && r.Intn(4) == 0:
		return at(r.Intn(impl.KeysMost), randomTask(r, nodes-1))
	case nodes >= 4 && r.Intn(3) == 0:
		first := 1 + r.Intn(nodes-3)
		second := 1 + r.Intn(nodes-2-first)
		return choose(randomTask(r, first), randomTask(r, second), randomTask(r, nodes-1-first-second))
	}
	first := 1 + r.Intn(nodes-2)
	if r.Intn(2) == 0 {
		return add(randomTask(r, first), randomTask(r, nodes-1-first))
	}
	return mul(randomTask(r, first), randomTask(r, nodes-1-first))
}

// manyTasks makes tasks of every number of nodes, the same ones in each run.
func manyTasks(each int) []impl.Task {
	r := rand.New(rand.NewSource(1))
	var list []impl.Task
	for nodes := 1; nodes <= impl.NodesMost; nodes++ {
		for range each {
			list = append(list, randomTask(r, nodes))
		}
	}
	return list
}

// read returns the task whose text is s, which is one.
func read(s string) impl.Task {
	t, ok := impl.TaskRead(s)
	if !ok {
		panic("no task: " + s)
	}
	return t
}

// plainValue returns the value of a key by a list of values of keys.
func plainValue(values []int, key int) int {
	if key >= len(values) {
		return 0
	}
	return values[key]
}

// plainFetches returns the value of a task and what it fetches, as the tables of the chapters tell.
func plainFetches(t impl.Task, values []int) (int, []impl.Fetch) {
	fetch := func(key int, ahead []impl.Fetch) (int, []impl.Fetch) {
		v := plainValue(values, key)
		return v, append(ahead, impl.Fetch{Key: key, Value: v})
	}
	switch t.Kind {
	case impl.TaskNum:
		return t.N, nil
	case impl.TaskGet:
		return fetch(t.N, nil)
	}
	value, list := plainFetches(t.Parts[0], values)
	switch t.Kind {
	case impl.TaskAt:
		return fetch((t.N+value)%10, list)
	case impl.TaskIf:
		next := t.Parts[2]
		if value != 0 {
			next = t.Parts[1]
		}
		second, more := plainFetches(next, values)
		return second, append(list, more...)
	}
	second, more := plainFetches(t.Parts[1], values)
	if t.Kind == impl.TaskAdd {
		return (value + second) % 97, append(list, more...)
	}
	return value * second % 97, append(list, more...)
}

// firstKeys returns the keys of fetches, each once, where it comes first.
func firstKeys(list []impl.Fetch) []int {
	var keys []int
	for _, f := range list {
		if !slices.Contains(keys, f.Key) {
			keys = append(keys, f.Key)
		}
	}
	return keys
}

// randomValues makes up to ten values, of which many are 0, few, or 96.
func randomValues(r *rand.Rand) []int {
	values := make([]int, r.Intn(impl.KeysMost+1))
	for i := range values {
		switch r.Intn(4) {
		case 0:
			values[i] = r.Intn(3)
		case 1:
			values[i] = impl.ValueTop - r.Intn(3)
		case 2:
			values[i] = r.Intn(impl.ValueTop + 1)
		}
	}
	return values
}

// plainMay returns the keys that a task may fetch: those in its text, or all if one is reckoned.
func plainMay(t impl.Task) []int {
	text, _ := plainText(t)
	var keys []int
	for key := range 10 {
		if strings.Contains(text, "@") || strings.Contains(text, "k"+strconv.Itoa(key)) {
			keys = append(keys, key)
		}
	}
	return keys
}

// sheet returns a sheet with a key for each text: that of its task, or "-" for an input.
func sheet(texts ...string) impl.Sheet {
	s := impl.Sheet{}
	for _, text := range texts {
		task := impl.Task{}
		if text != "-" {
			task = read(text)
		}
		s.Made, s.Tasks = append(s.Made, text != "-"), append(s.Tasks, task)
	}
	return s
}

// copySheet returns a sheet that shares no memory with s.
func copySheet(s impl.Sheet) impl.Sheet {
	c := impl.Sheet{Made: slices.Clone(s.Made)}
	for _, t := range s.Tasks {
		c.Tasks = append(c.Tasks, copyTask(t))
	}
	return c
}

// sameSheet compares two sheets; lists that are nil and empty ones are the same.
func sameSheet(a, b impl.Sheet) bool {
	return slices.Equal(a.Made, b.Made) && slices.EqualFunc(a.Tasks, b.Tasks, sameTask)
}

// plainBuild builds a key from nothing as chapter 3 tells: its value, or the circle on which it fails. The keys of the stack are being built.
func plainBuild(s impl.Sheet, inputs []int, key int, stack []int) (int, []int) {
	if key >= len(s.Made) {
		return 0, nil
	}
	if !s.Made[key] {
		return inputs[key], nil
	}
	if i := slices.Index(stack, key); i >= 0 {
		return 0, slices.Clone(stack[i:])
	}
	return plainTask(s, inputs, s.Tasks[key], append(slices.Clone(stack), key))
}

// plainTask returns the value of a task whose keys are built from nothing, or the circle on which this fails.
func plainTask(s impl.Sheet, inputs []int, t impl.Task, stack []int) (int, []int) {
	switch t.Kind {
	case impl.TaskNum:
		return t.N, nil
	case impl.TaskGet:
		return plainBuild(s, inputs, t.N, stack)
	}
	first, circle := plainTask(s, inputs, t.Parts[0], stack)
	if circle != nil {
		return 0, circle
	}
	switch t.Kind {
	case impl.TaskAt:
		return plainBuild(s, inputs, (t.N+first)%10, stack)
	case impl.TaskIf:
		if first != 0 {
			return plainTask(s, inputs, t.Parts[1], stack)
		}
		return plainTask(s, inputs, t.Parts[2], stack)
	}
	second, circle := plainTask(s, inputs, t.Parts[1], stack)
	switch {
	case circle != nil:
		return 0, circle
	case t.Kind == impl.TaskAdd:
		return (first + second) % 97, nil
	}
	return first * second % 97, nil
}

// plainSafe reports whether no key of a sheet may be fetched from itself on some way.
func plainSafe(s impl.Sheet) bool {
	var reach [10][10]bool
	for key, t := range s.Tasks {
		for _, to := range plainMay(t) {
			reach[key][to] = true
		}
	}
	for via := range 10 {
		for from := range 10 {
			for to := range 10 {
				reach[from][to] = reach[from][to] || reach[from][via] && reach[via][to]
			}
		}
	}
	for key := range 10 {
		if reach[key][key] {
			return false
		}
	}
	return true
}

// aimTask returns a task that fetches only keys of a list where t fetches any: numbers and other tasks stand where there are none, or where a key is reckoned.
func aimTask(t impl.Task, keys []int) impl.Task {
	switch {
	case t.Kind == impl.TaskGet && len(keys) == 0:
		return num(t.N)
	case t.Kind == impl.TaskGet:
		return get(keys[t.N%len(keys)])
	case t.Kind == impl.TaskAt:
		return aimTask(t.Parts[0], keys)
	}
	c := impl.Task{Kind: t.Kind, N: t.N}
	for _, part := range t.Parts {
		c.Parts = append(c.Parts, aimTask(part, keys))
	}
	return c
}

// randomSheet makes a sheet of up to ten keys. Its tasks fetch what they will, or all but a few only keys that come later in some order, and keys that are not there.
func randomSheet(r *rand.Rand) impl.Sheet {
	keys := r.Intn(impl.KeysMost + 1)
	s := impl.Sheet{Made: make([]bool, keys), Tasks: make([]impl.Task, keys)}
	order, wild := r.Perm(impl.KeysMost), r.Intn(4)
	for i, key := range order {
		if key >= keys || r.Intn(4) == 0 {
			continue
		}
		t := randomTask(r, 1+r.Intn(8))
		if wild > 0 && r.Intn(8*wild) > 0 {
			t = aimTask(t, order[i+1:])
		}
		s.Made[key], s.Tasks[key] = true, t
	}
	return s
}

// randomInputs makes as many inputs as a sheet has keys.
func randomInputs(r *rand.Rand, s impl.Sheet) []int {
	inputs := append(randomValues(r), make([]int, impl.KeysMost)...)
	return inputs[:len(s.Made)]
}
