package impl

import "strconv"

// KeysMost is the greatest number of keys.
const KeysMost = 10

// NodesMost is the greatest number of nodes of a task.
const NodesMost = 15

// ValueTop is the greatest value.
const ValueTop = 96

// TaskNum is the kind of a number.
const TaskNum = 0

// TaskGet is the kind of what is fetched of a key.
const TaskGet = 1

// TaskAdd is the kind of sums.
const TaskAdd = 2

// TaskMul is the kind of products.
const TaskMul = 3

// TaskIf is the kind of choices between two.
const TaskIf = 4

// TaskAt is the kind of what is fetched of a key that is reckoned.
const TaskAt = 5

// Task is a task: its kind, a number, and its parts.
type Task struct {
	Kind  int
	N     int
	Parts []Task
}

// TaskOk reports whether a task is one.
func TaskOk(t Task) bool {
	return TaskNodes(t) > 0
}

// TaskNodes returns how many nodes a task has; -1 if it is none.
func TaskNodes(t Task) int {
	n, ok := countNodes(t, NodesMost)
	if !ok {
		return -1
	}
	return n
}

// TaskText returns the text of a task; the empty text if it is none.
func TaskText(t Task) string {
	if !TaskOk(t) {
		return ""
	}
	return string(appendTask(nil, t))
}

// TaskRead returns the task whose text s is, and true; nothing and false if
// there is none.
func TaskRead(s string) (Task, bool) {
	r := taskReader{text: s, left: NodesMost}
	t, ok := r.task()
	if !ok || r.at != len(s) {
		return Task{}, false
	}
	return t, true
}

// TaskFixed reports whether a task has neither TaskIf nor TaskAt at any
// depth; false if it is none.
func TaskFixed(t Task) bool {
	return TaskOk(t) && hasFixedKinds(t)
}

// taskShape tells how many parts a kind has, and the greatest number N that
// it takes: 0 for a kind that needs no number.
func taskShape(kind int) (parts int, top int, ok bool) {
	switch kind {
	case TaskNum:
		return 0, ValueTop, true
	case TaskGet:
		return 0, KeysMost - 1, true
	case TaskAdd, TaskMul:
		return 2, 0, true
	case TaskIf:
		return 3, 0, true
	case TaskAt:
		return 1, KeysMost - 1, true
	}
	return 0, 0, false
}

// countNodes counts the nodes of a task that has at most so many. Each node
// uses up one of them, so that it ends even if parts contain themselves.
func countNodes(t Task, most int) (int, bool) {
	parts, top, ok := taskShape(t.Kind)
	if !ok || most < 1 || t.N < 0 || t.N > top || len(t.Parts) != parts {
		return 0, false
	}
	n := 1
	for _, part := range t.Parts {
		k, ok := countNodes(part, most-n)
		if !ok {
			return 0, false
		}
		n += k
	}
	return n, true
}

// appendTask puts the text of a valid task behind b.
func appendTask(b []byte, t Task) []byte {
	switch t.Kind {
	case TaskNum:
		return strconv.AppendInt(b, int64(t.N), 10)
	case TaskGet:
		return strconv.AppendInt(append(b, 'k'), int64(t.N), 10)
	case TaskAdd:
		b = append(b, "(+"...)
	case TaskMul:
		b = append(b, "(*"...)
	case TaskIf:
		b = append(b, "(?"...)
	case TaskAt:
		b = strconv.AppendInt(append(b, "(@"...), int64(t.N), 10)
	}
	for _, part := range t.Parts {
		b = appendTask(append(b, ' '), part)
	}
	return append(b, ')')
}

// hasFixedKinds reports whether no node of a valid task chooses what
// is fetched.
func hasFixedKinds(t Task) bool {
	if t.Kind == TaskIf || t.Kind == TaskAt {
		return false
	}
	for _, part := range t.Parts {
		if !hasFixedKinds(part) {
			return false
		}
	}
	return true
}

// taskReader reads the text of a task byte by byte. It counts down the nodes
// that are left, so that a long text cannot nest without end.
type taskReader struct {
	text string
	at   int
	left int
}

// take returns the next byte and goes past it. Behind the end it is 0, which
// no text of a task contains, so that callers need not ask for the end.
func (r *taskReader) take() byte {
	if r.at == len(r.text) {
		return 0
	}
	r.at++
	return r.text[r.at-1]
}

// number reads a number from 0 to top.
func (r *taskReader) number(top int) (int, bool) {
	start, n := r.at, 0
	for r.at < len(r.text) && r.text[r.at] >= '0' && r.text[r.at] <= '9' {
		if r.at > start && n == 0 {
			return 0, false // a leading zero
		}
		n = n*10 + int(r.text[r.at]-'0')
		if n > top {
			return 0, false // before it can overflow
		}
		r.at++
	}
	return n, r.at > start
}

// task reads a task with all its parts.
func (r *taskReader) task() (Task, bool) {
	if r.left == 0 || r.at == len(r.text) {
		return Task{}, false
	}
	r.left--
	switch r.text[r.at] {
	case '(':
		r.at++
		return r.group()
	case 'k':
		r.at++
		n, ok := r.number(KeysMost - 1)
		return Task{Kind: TaskGet, N: n}, ok
	}
	n, ok := r.number(ValueTop)
	return Task{Kind: TaskNum, N: n}, ok
}

// group reads what stands behind the opening bracket of a task, the closing
// one included.
func (r *taskReader) group() (Task, bool) {
	var t Task
	switch r.take() {
	case '+':
		t.Kind = TaskAdd
	case '*':
		t.Kind = TaskMul
	case '?':
		t.Kind = TaskIf
	case '@':
		n, ok := r.number(KeysMost - 1)
		if !ok {
			return Task{}, false
		}
		t.Kind, t.N = TaskAt, n
	default:
		return Task{}, false
	}
	parts, _, _ := taskShape(t.Kind)
	t.Parts = make([]Task, parts)
	for i := range t.Parts {
		if r.take() != ' ' {
			return Task{}, false
		}
		part, ok := r.task()
		if !ok {
			return Task{}, false
		}
		t.Parts[i] = part
	}
	return t, r.take() == ')'
}
