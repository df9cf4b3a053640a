package tests

import (
	"math/rand"
	"slices"

	"loop.example/buildroads/impl"
)

func num(n int) impl.Task { return impl.Task{Kind: impl.TaskNum, N: n} }

func get(key int) impl.Task { return impl.Task{Kind: impl.TaskGet, N: key} }

func add(a, b impl.Task) impl.Task {
	return impl.Task{Kind: impl.TaskAdd, Parts: []impl.Task{a, b}}
}

func mul(a, b impl.Task) impl.Task {
	return impl.Task{Kind: impl.TaskMul, Parts: []impl.Task{a, b}}
}

func choose(a, b, c impl.Task) impl.Task {
	return impl.Task{Kind: impl.TaskIf, Parts: []impl.Task{a, b, c}}
}

func at(n int, part impl.Task) impl.Task {
	return impl.Task{Kind: impl.TaskAt, N: n, Parts: []impl.Task{part}}
}

// nest puts a task into so many TaskAt.
func nest(depth int, t impl.Task) impl.Task {
	for range depth {
		t = at(0, t)
	}
	return t
}

// sumLeft and sumRight add up so many tasks, deep on one side.
func sumLeft(leaves int, leaf impl.Task) impl.Task {
	t := leaf
	for range leaves - 1 {
		t = add(t, leaf)
	}
	return t
}

func sumRight(leaves int, leaf impl.Task) impl.Task {
	t := leaf
	for range leaves - 1 {
		t = add(leaf, t)
	}
	return t
}

// sameTask compares two tasks; parts that are nil and empty ones are the same.
func sameTask(a, b impl.Task) bool {
	if a.Kind != b.Kind || a.N != b.N || len(a.Parts) != len(b.Parts) {
		return false
	}
	for i := range a.Parts {
		if !sameTask(a.Parts[i], b.Parts[i]) {
			return false
		}
	}
	return true
}

// copyTask returns a task that shares no memory with t.
func copyTask(t impl.Task) impl.Task {
	c := impl.Task{Kind: t.Kind, N: t.N}
	for _, part := range t.Parts {
		c.Parts = append(c.Parts, copyTask(part))
	}
	return c
}

// randomTask makes a task of exactly so many nodes.
func randomTask(r *rand.Rand, nodes int) impl.Task {
	switch {
	case nodes == 1 && r.Intn(2) == 0:
		return num(r.Intn(impl.ValueTop + 1))
	case nodes == 1:
		return get(r.Intn(impl.KeysMost))
	case nodes == 2 || nodes > 3 && r.Intn(4) == 0:
		return at(r.Intn(impl.KeysMost), randomTask(r, nodes-1))
	case nodes >= 4 && r.Intn(3) == 0:
		first := 1 + r.Intn(nodes-3)
		second := 1 + r.Intn(nodes-2-first)
		return choose(randomTask(r, first), randomTask(r, second), randomTask(r, nodes-1-first-second))
	}
	first := 1 + r.Intn(nodes-2)
	if r.Intn(2) == 0 {
		return add(randomTask(r, first), randomTask(r, nodes-1-first))
	}
	return mul(randomTask(r, first), randomTask(r, nodes-1-first))
}

// manyTasks makes tasks of every number of nodes, the same ones in each run.
func manyTasks(each int) []impl.Task {
	r := rand.New(rand.NewSource(1))
	var list []impl.Task
	for nodes := 1; nodes <= impl.NodesMost; nodes++ {
		for range each {
			list = append(list, randomTask(r, nodes))
		}
	}
	return list
}

// read returns the task whose text is s, which is one.
func read(s string) impl.Task {
	t, ok := impl.TaskRead(s)
	if !ok {
		panic("no task: " + s)
	}
	return t
}

// plainValue returns the value of a key by a list of values of keys.
func plainValue(values []int, key int) int {
	if key >= len(values) {
		return 0
	}
	return values[key]
}

// plainFetches returns the value of a task and what it fetches, as the tables of the chapters tell.
func plainFetches(t impl.Task, values []int) (int, []impl.Fetch) {
	fetch := func(key int, ahead []impl.Fetch) (int, []impl.Fetch) {
		v := plainValue(values, key)
		return v, append(ahead, impl.Fetch{Key: key, Value: v})
	}
	switch t.Kind {
	case impl.TaskNum:
		return t.N, nil
	case impl.TaskGet:
		return fetch(t.N, nil)
	}
	value, list := plainFetches(t.Parts[0], values)
	switch t.Kind {
	case impl.TaskAt:
		return fetch((t.N+value)%10, list)
	case impl.TaskIf:
		next := t.Parts[2]
		if value != 0 {
			next = t.Parts[1]
		}
		second, more := plainFetches(next, values)
		return second, append(list, more...)
	}
	second, more := plainFetches(t.Parts[1], values)
	if t.Kind == impl.TaskAdd {
		return (value + second) % 97, append(list, more...)
	}
	return value * second % 97, append(list, more...)
}

// firstKeys returns the keys of fetches, each once, where it comes first.
func firstKeys(list []impl.Fetch) []int {
	var keys []int
	for _, f := range list {
		if !slices.Contains(keys, f.Key) {
			keys = append(keys, f.Key)
		}
	}
	return keys
}

// randomValues makes up to ten values, of which many are 0, few, or 96.
func randomValues(r *rand.Rand) []int {
	values := make([]int, r.Intn(impl.KeysMost+1))
	for i := range values {
		switch r.Intn(4) {
		case 0:
			values[i] = r.Intn(3)
		case 1:
			values[i] = impl.ValueTop - r.Intn(3)
		case 2:
			values[i] = r.Intn(impl.ValueTop + 1)
		}
	}
	return values
}
