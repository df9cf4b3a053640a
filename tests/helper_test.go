package tests

import (
	"math/rand"

	"loop.example/buildroads/impl"
)

func num(n int) impl.Task { return impl.Task{Kind: impl.TaskNum, N: n} }

func get(key int) impl.Task { return impl.Task{Kind: impl.TaskGet, N: key} }

func add(a, b impl.Task) impl.Task {
	return impl.Task{Kind: impl.TaskAdd, Parts: []impl.Task{a, b}}
}

func mul(a, b impl.Task) impl.Task {
	return impl.Task{Kind: impl.TaskMul, Parts: []impl.Task{a, b}}
}

func choose(a, b, c impl.Task) impl.Task {
	return impl.Task{Kind: impl.TaskIf, Parts: []impl.Task{a, b, c}}
}

func at(n int, part impl.Task) impl.Task {
	return impl.Task{Kind: impl.TaskAt, N: n, Parts: []impl.Task{part}}
}

// nest puts a task into so many TaskAt.
func nest(depth int, t impl.Task) impl.Task {
	for range depth {
		t = at(0, t)
	}
	return t
}

// sumLeft and sumRight add up so many tasks, deep on one side.
func sumLeft(leaves int, leaf impl.Task) impl.Task {
	t := leaf
	for range leaves - 1 {
		t = add(t, leaf)
	}
	return t
}

func sumRight(leaves int, leaf impl.Task) impl.Task {
	t := leaf
	for range leaves - 1 {
		t = add(leaf, t)
	}
	return t
}

// sameTask compares two tasks; parts that are nil and empty ones are the same.
func sameTask(a, b impl.Task) bool {
	if a.Kind != b.Kind || a.N != b.N || len(a.Parts) != len(b.Parts) {
		return false
	}
	for i := range a.Parts {
		if !sameTask(a.Parts[i], b.Parts[i]) {
			return false
		}
	}
	return true
}

// copyTask returns a task that shares no memory with t.
func copyTask(t impl.Task) impl.Task {
	c := impl.Task{Kind: t.Kind, N: t.N}
	for _, part := range t.Parts {
		c.Parts = append(c.Parts, copyTask(part))
	}
	return c
}

// randomTask makes a task of exactly so many nodes.
func randomTask(r *rand.Rand, nodes int) impl.Task {
	switch {
	case nodes == 1 && r.Intn(2) == 0:
		return num(r.Intn(impl.ValueTop + 1))
	case nodes == 1:
		return get(r.Intn(impl.KeysMost))
	case nodes == 2 || nodes > 3 && r.Intn(4) == 0:
		return at(r.Intn(impl.KeysMost), randomTask(r, nodes-1))
	case nodes >= 4 && r.Intn(3) == 0:
		first := 1 + r.Intn(nodes-3)
		second := 1 + r.Intn(nodes-2-first)
		return choose(randomTask(r, first), randomTask(r, second), randomTask(r, nodes-1-first-second))
	}
	first := 1 + r.Intn(nodes-2)
	if r.Intn(2) == 0 {
		return add(randomTask(r, first), randomTask(r, nodes-1-first))
	}
	return mul(randomTask(r, first), randomTask(r, nodes-1-first))
}

// manyTasks makes tasks of every number of nodes, the same ones in each run.
func manyTasks(each int) []impl.Task {
	r := rand.New(rand.NewSource(1))
	var list []impl.Task
	for nodes := 1; nodes <= impl.NodesMost; nodes++ {
		for range each {
			list = append(list, randomTask(r, nodes))
		}
	}
	return list
}
